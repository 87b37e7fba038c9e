/- What part a comparison lets through: the developers' and the reference's. -/
import Derived.Test.YtkgdbpfpjpiejaaHiB
namespace Go.Proofs.Ytkgdbpfpjpiejaa
open Go.RowKit Go.Deep
set_option linter.unusedVariables false
set_option linter.unusedSimpArgs false
set_option maxRecDepth 100000

theorem max_one {n : Int} : divr n = if 1 < clip n then clip n else 1 := by rw [divr_eq]; split <;> split <;> omega
theorem wrap_mid {z : Int} (h : -1000000000000 ≤ z) (h1 : z ≤ 2000000000000) : IntKind.i64.wrap z = z := by
  rw [IntKind.wrap_i64]; omega

set_option maxHeartbeats 8000000 in
theorem part_any (op d nn : Int) (q : Option Addr) (l : List Stp) (c : Nat) (v : Val) (w : World) (hlm : l.length ≤ 9223372036854775807) (h : StepsA w 0 w.heap.size q l) :
    Calls Try.prog 18 #[.int .i64 op, .agg #[.int .i64 d, .int .i64 nn, .slice q l.length c], v.v] w fun e w' => e = .returned (.tuple #[.int .i64 (partN op d l v), .int .i64 (partD op d l)]) ∧ Below w.heap.size w w' := by
  have HM := Lib.hid fun (W : World) (hb : Below w.heap.size w W) => (many_any d nn q l c W hlm (StepsA.later h hb))
  have HL := Lib.hid fun (t : Bool) (W : World) (hb : Below w.heap.size w W) => (below_any d nn q l c v t W hlm (StepsA.later h hb))
  have hmany := many_le l
  have hdd := divr_le d
  have hdc := clip_le d
  have hdm := divr_le (manyL l)
  have HD := Lib.hid (max_one (n := d))
  have HDM := Lib.hid (max_one (n := manyL l))
  have HCM := Lib.hid (clip_of hmany.1 hmany.2)
  have hbf := below_le v false l
  have hbt := below_le v true l
  obtain ⟨n, hn⟩ : ∃ n, n = l.length := ⟨_, rfl⟩
  rw [← hn] at HM HL hlm ⊢
  clear hn h
  obtain ⟨mm, hmm⟩ : ∃ mm, mm = manyL l := ⟨_, rfl⟩
  obtain ⟨bf, hbf'⟩ : ∃ x, x = belowL v false l := ⟨_, rfl⟩
  obtain ⟨bt, hbt'⟩ : ∃ x, x = belowL v true l := ⟨_, rfl⟩
  have HLF := Lib.hid (HL.out false)
  have HLT := Lib.hid (HL.out true)
  rw [← hbf'] at HLF hbf
  rw [← hbt'] at HLT hbt
  rw [← hmm] at HM HDM HCM hmany hdm hbf hbt
  have hle : mm ≤ divr mm := by have := HDM.out; rw [HCM.out] at this; rw [this]; split <;> omega
  have PN : partN op d l v = if op = 9 then 1 else if op = 10 then divr d - 1 else if op = 11 then bf else if op = 12 then bt else if op = 13 then divr mm - bt else if op = 14 then divr mm - bf else 1 := by
    rw [hmm, hbf', hbt']
    unfold partN
    by_cases h9 : op = 9
    · rw [if_pos h9, if_pos h9]
    by_cases h10 : op = 10
    · rw [if_neg h9, if_neg h9, if_pos h10, if_pos h10]
    rw [if_neg h9, if_neg h9, if_neg h10, if_neg h10]
    by_cases h11 : op = 11
    · subst h11; rfl
    by_cases h12 : op = 12
    · subst h12; rfl
    by_cases h13 : op = 13
    · subst h13; rfl
    by_cases h14 : op = 14
    · subst h14; rfl
    rw [if_neg (by omega), if_neg (by omega), if_neg h11, if_neg h12, if_neg h13, if_neg h14]
  have PD : partD op d l = if op = 9 then divr d else if op = 10 then divr d else if op = 11 then divr mm else if op = 12 then divr mm else if op = 13 then divr mm else if op = 14 then divr mm else 3 := by
    rw [hmm]
    unfold partD
    by_cases h9 : op = 9
    · rw [if_pos (.inl h9), if_pos h9]
    by_cases h10 : op = 10
    · rw [if_pos (.inr h10), if_neg h9, if_pos h10]
    rw [if_neg (by omega), if_neg h9, if_neg h10]
    by_cases h11 : op = 11
    · subst h11; rfl
    by_cases h12 : op = 12
    · subst h12; rfl
    by_cases h13 : op = 13
    · subst h13; rfl
    by_cases h14 : op = 14
    · subst h14; rfl
    rw [if_neg (by omega), if_neg h11, if_neg h12, if_neg h13, if_neg h14]
  obtain ⟨pn, hpn⟩ : ∃ x, x = partN op d l v := ⟨_, rfl⟩
  obtain ⟨pd, hpd⟩ : ∃ x, x = partD op d l := ⟨_, rfl⟩
  rw [← hpn, ← hpd]
  have HPN := Lib.hid (hpn.trans PN)
  have HPD := Lib.hid (hpd.trans PD)
  clear PN PD hmm hbf' hbt' HL hpn hpd
  obtain ⟨vk, vn, vs⟩ := v
  go_enter Try.func18, Try.ntmps18
  go_upto_region 1 with fail
  obtain ⟨V, hV⟩ : ∃ V, V = (w.alloc (.cells #[.int .i64 d, .int .i64 nn, .slice q n c] 29)).alloc (.cells #[.int .i64 vk, .int .i64 vn, .string vs] 31) := ⟨_, rfl⟩
  rw [← hV]
  obtain ⟨b, hb⟩ : ∃ b, b = w.heap.size := ⟨_, rfl⟩
  have HBV := Lib.hid (show Below w.heap.size w V from by rw [hV]; exact ext_alloc (ext_alloc (ext_refl _) _) _)
  have hs0 : b < V.heap.size := by rw [hV, hb]; simp
  have hs1 : b + 1 < V.heap.size := by rw [hV, hb]; simp
  have b0 : V.cell? ⟨b, 0, none⟩ = some (.int .i64 d) := by rw [hV, hb]; simp [go_sem]
  have b1 : V.cell? ⟨b, 1, none⟩ = some (.int .i64 nn) := by rw [hV, hb]; simp [go_sem]
  have b2 : V.cell? ⟨b, 2, none⟩ = some (.slice q n c) := by rw [hV, hb]; simp [go_sem]
  have v0 : V.cell? ⟨b + 1, 0, none⟩ = some (.int .i64 vk) := by rw [hV, hb]; simp [go_sem]
  have v1 : V.cell? ⟨b + 1, 1, none⟩ = some (.int .i64 vn) := by rw [hV, hb]; simp [go_sem]
  have v2 : V.cell? ⟨b + 1, 2, none⟩ = some (.string vs) := by rw [hV, hb]; simp [go_sem]
  rw [← hb]
  have q0 := fun (z : After V) => (z.cell b _ hs0).trans b0
  have q1 := fun (z : After V) => (z.cell b _ hs0).trans b1
  have q2 := fun (z : After V) => (z.cell b _ hs0).trans b2
  have CM : ∀ z : After V, Calls Try.prog 20 #[.agg #[.int .i64 d, .int .i64 nn, .slice q n c]] z.W fun e w' => e = .returned (.int .i64 mm) ∧ Below z.W.heap.size z.W w' := fun z => HM.out z.W (HBV.out.trans (z.below.mono HBV.out.size))
  have CD : ∀ (m : Int) (z : After V), Calls Try.prog 29 #[.int .i64 m] z.W fun e w' => e = .returned (.int .i64 (divr m)) ∧ Below z.W.heap.size z.W w' := fun m z => (divr_any m z.W).mono fun e w' ⟨h1, h2⟩ => ⟨h1, by rw [← h2]; exact Below.refl _ _⟩
  have is := After.some V
  clear hV hb
  refine wp_region_after (by kernel_rfl) (by kernel_rfl) ?_
  repeat (quiet_step ((first | (go_at_call 20; exact calls_after (CM _)) | (go_at_call 29; exact calls_after (CD _ _)))))
  refine wpQuiet_nil ?_
  intro W1 hw
  obtain ⟨⟨W2, hb⟩, rfl⟩ := hw
  have k0 := (hb.cell (p := ⟨b, _, none⟩) hs0).trans b0
  have k1 := (hb.cell (p := ⟨b, _, none⟩) hs0).trans b1
  have k2 := (hb.cell (p := ⟨b, _, none⟩) hs0).trans b2
  have k3 := (hb.cell (p := ⟨b + 1, _, none⟩) hs1).trans v0
  have k4 := (hb.cell (p := ⟨b + 1, _, none⟩) hs1).trans v1
  have k5 := (hb.cell (p := ⟨b + 1, _, none⟩) hs1).trans v2
  have hsW0 : b < W1.heap.size := Nat.lt_of_lt_of_le hs0 hb.size
  have hsW1 : b + 1 < W1.heap.size := Nat.lt_of_lt_of_le hs1 hb.size
  have HBW := Lib.hid (HBV.out.trans (hb.mono HBV.out.size))
  clear q0 q1 q2 b0 b1 b2 v0 v1 v2 CM CD is hb hs0 hs1
  have HBE := HBW.out
  by_cases h9 : op = 9
  · subst h9
    have E1 := Lib.hid (show pn = 1 from HPN.out)
    have E2 := Lib.hid (show pd = divr d from HPD.out)
    go_wp2_with (fail)
    (refine bodyPost_ret (v := .tuple #[.int .i64 (1), .int .i64 (divr d)]) (by simp [results, Try.results18, go_sem, *]) rfl ⟨by (rw [E1.out, E2.out]), ?_⟩; (repeat (first | exact ext_refl _ | assumption | (refine ext_alloc ?_ _) | (refine ext_drewN ?_ _) | refine ext_drew ?_ | (refine ext_set (by first | (simp; done) | (simp; omega)) _ ?_) | (refine ext_trans ?_ (by assumption)))))
  by_cases h10 : op = 10
  · subst h10
    have E1 := Lib.hid (show pn = divr d - 1 from HPN.out)
    have E2 := Lib.hid (show pd = divr d from HPD.out)
    have hw1 : IntKind.i64.wrap (divr d - 1) = divr d - 1 := wrap_mid (by omega) (by omega)
    go_wp2_with (fail)
    (refine bodyPost_ret (v := .tuple #[.int .i64 (divr d - 1), .int .i64 (divr d)]) (by simp [results, Try.results18, go_sem, *]) rfl ⟨by (rw [E1.out, E2.out]), ?_⟩; (repeat (first | exact ext_refl _ | assumption | (refine ext_alloc ?_ _) | (refine ext_drewN ?_ _) | refine ext_drew ?_ | (refine ext_set (by first | (simp; done) | (simp; omega)) _ ?_) | (refine ext_trans ?_ (by assumption)))))
  by_cases h11 : op = 11
  · subst h11
    have E1 := Lib.hid (show pn = bf from HPN.out)
    have E2 := Lib.hid (show pd = divr mm from HPD.out)
    go_wp2_with (go_at_call 22; refine (HLF.out _ HBW.out).mono ?_; rintro e w1 ⟨rfl, hb⟩; have hbb := HBW.out.trans (hb.mono HBW.out.size))
    (refine bodyPost_ret (v := .tuple #[.int .i64 (bf), .int .i64 (divr mm)]) (by simp [results, Try.results18, go_sem, *]) rfl ⟨by (rw [E1.out, E2.out]), ?_⟩; (repeat (first | exact ext_refl _ | assumption | (refine ext_alloc ?_ _) | (refine ext_drewN ?_ _) | refine ext_drew ?_ | (refine ext_set (by first | (simp; done) | (simp; omega)) _ ?_) | (refine ext_trans ?_ (by assumption)))))
  by_cases h12 : op = 12
  · subst h12
    have E1 := Lib.hid (show pn = bt from HPN.out)
    have E2 := Lib.hid (show pd = divr mm from HPD.out)
    go_wp2_with (go_at_call 22; refine (HLT.out _ HBW.out).mono ?_; rintro e w1 ⟨rfl, hb⟩; have hbb := HBW.out.trans (hb.mono HBW.out.size))
    (refine bodyPost_ret (v := .tuple #[.int .i64 (bt), .int .i64 (divr mm)]) (by simp [results, Try.results18, go_sem, *]) rfl ⟨by (rw [E1.out, E2.out]), ?_⟩; (repeat (first | exact ext_refl _ | assumption | (refine ext_alloc ?_ _) | (refine ext_drewN ?_ _) | refine ext_drew ?_ | (refine ext_set (by first | (simp; done) | (simp; omega)) _ ?_) | (refine ext_trans ?_ (by assumption)))))
  by_cases h13 : op = 13
  · subst h13
    have E1 := Lib.hid (show pn = divr mm - bt from HPN.out)
    have E2 := Lib.hid (show pd = divr mm from HPD.out)
    have hw1 : IntKind.i64.wrap (divr mm - bt) = divr mm - bt := wrap_mid (by omega) (by omega)
    go_wp2_with (go_at_call 22; refine (HLT.out _ HBW.out).mono ?_; rintro e w1 ⟨rfl, hb⟩; have hbb := HBW.out.trans (hb.mono HBW.out.size))
    (refine bodyPost_ret (v := .tuple #[.int .i64 (divr mm - bt), .int .i64 (divr mm)]) (by simp [results, Try.results18, go_sem, *]) rfl ⟨by (rw [E1.out, E2.out]), ?_⟩; (repeat (first | exact ext_refl _ | assumption | (refine ext_alloc ?_ _) | (refine ext_drewN ?_ _) | refine ext_drew ?_ | (refine ext_set (by first | (simp; done) | (simp; omega)) _ ?_) | (refine ext_trans ?_ (by assumption)))))
  by_cases h14 : op = 14
  · subst h14
    have E1 := Lib.hid (show pn = divr mm - bf from HPN.out)
    have E2 := Lib.hid (show pd = divr mm from HPD.out)
    have hw1 : IntKind.i64.wrap (divr mm - bf) = divr mm - bf := wrap_mid (by omega) (by omega)
    go_wp2_with (go_at_call 22; refine (HLF.out _ HBW.out).mono ?_; rintro e w1 ⟨rfl, hb⟩; have hbb := HBW.out.trans (hb.mono HBW.out.size))
    (refine bodyPost_ret (v := .tuple #[.int .i64 (divr mm - bf), .int .i64 (divr mm)]) (by simp [results, Try.results18, go_sem, *]) rfl ⟨by (rw [E1.out, E2.out]), ?_⟩; (repeat (first | exact ext_refl _ | assumption | (refine ext_alloc ?_ _) | (refine ext_drewN ?_ _) | refine ext_drew ?_ | (refine ext_set (by first | (simp; done) | (simp; omega)) _ ?_) | (refine ext_trans ?_ (by assumption)))))
  have E1 := Lib.hid (show pn = 1 by rw [HPN.out, if_neg h9, if_neg h10, if_neg h11, if_neg h12, if_neg h13, if_neg h14])
  have E2 := Lib.hid (show pd = 3 by rw [HPD.out, if_neg h9, if_neg h10, if_neg h11, if_neg h12, if_neg h13, if_neg h14])
  go_wp2_with (fail)
  (refine bodyPost_ret (v := .tuple #[.int .i64 (1), .int .i64 (3)]) (by simp [results, Try.results18, go_sem, *]) rfl ⟨by (rw [E1.out, E2.out]), ?_⟩; (repeat (first | exact ext_refl _ | assumption | (refine ext_alloc ?_ _) | (refine ext_drewN ?_ _) | refine ext_drew ?_ | (refine ext_set (by first | (simp; done) | (simp; omega)) _ ?_) | (refine ext_trans ?_ (by assumption)))))

set_option maxHeartbeats 16000000 in
theorem rpart_any (op d nn : Int) (q : Option Addr) (l : List Stp) (c : Nat) (v : Val) (w : World) (hlm : l.length ≤ 9223372036854775807) (h : StepsA w 0 w.heap.size q l) :
    Calls Try.prog 19 #[.int .i64 op, .agg #[.int .i64 d, .int .i64 nn, .slice q l.length c], v.v] w fun e w' => e = .returned (.tuple #[.int .i64 (partN op d l v), .int .i64 (partD op d l)]) ∧ Below w.heap.size w w' := by
  have HM := Lib.hid fun (W : World) (hb : Below w.heap.size w W) => (rmany_any d nn q l c W hlm (StepsA.later h hb))
  have HL := Lib.hid fun (t : Bool) (W : World) (hb : Below w.heap.size w W) => (rbelow_any d nn q l c v t W hlm (StepsA.later h hb))
  have hmany := many_le l
  have hdd := divr_le d
  have hdc := clip_le d
  have hdm := divr_le (manyL l)
  have HD := Lib.hid (max_one (n := d))
  have HDM := Lib.hid (max_one (n := manyL l))
  have HCM := Lib.hid (clip_of hmany.1 hmany.2)
  have hbf := below_le v false l
  have hbt := below_le v true l
  obtain ⟨n, hn⟩ : ∃ n, n = l.length := ⟨_, rfl⟩
  rw [← hn] at HM HL hlm ⊢
  clear hn h
  obtain ⟨mm, hmm⟩ : ∃ mm, mm = manyL l := ⟨_, rfl⟩
  obtain ⟨bf, hbf'⟩ : ∃ x, x = belowL v false l := ⟨_, rfl⟩
  obtain ⟨bt, hbt'⟩ : ∃ x, x = belowL v true l := ⟨_, rfl⟩
  have HLF := Lib.hid (HL.out false)
  have HLT := Lib.hid (HL.out true)
  rw [← hbf'] at HLF hbf
  rw [← hbt'] at HLT hbt
  rw [← hmm] at HM HDM HCM hmany hdm hbf hbt
  have hle : mm ≤ divr mm := by have := HDM.out; rw [HCM.out] at this; rw [this]; split <;> omega
  have PN : partN op d l v = if op = 9 then 1 else if op = 10 then divr d - 1 else if op = 11 then bf else if op = 12 then bt else if op = 13 then divr mm - bt else if op = 14 then divr mm - bf else 1 := by
    rw [hmm, hbf', hbt']
    unfold partN
    by_cases h9 : op = 9
    · rw [if_pos h9, if_pos h9]
    by_cases h10 : op = 10
    · rw [if_neg h9, if_neg h9, if_pos h10, if_pos h10]
    rw [if_neg h9, if_neg h9, if_neg h10, if_neg h10]
    by_cases h11 : op = 11
    · subst h11; rfl
    by_cases h12 : op = 12
    · subst h12; rfl
    by_cases h13 : op = 13
    · subst h13; rfl
    by_cases h14 : op = 14
    · subst h14; rfl
    rw [if_neg (by omega), if_neg (by omega), if_neg h11, if_neg h12, if_neg h13, if_neg h14]
  have PD : partD op d l = if op = 9 then divr d else if op = 10 then divr d else if op = 11 then divr mm else if op = 12 then divr mm else if op = 13 then divr mm else if op = 14 then divr mm else 3 := by
    rw [hmm]
    unfold partD
    by_cases h9 : op = 9
    · rw [if_pos (.inl h9), if_pos h9]
    by_cases h10 : op = 10
    · rw [if_pos (.inr h10), if_neg h9, if_pos h10]
    rw [if_neg (by omega), if_neg h9, if_neg h10]
    by_cases h11 : op = 11
    · subst h11; rfl
    by_cases h12 : op = 12
    · subst h12; rfl
    by_cases h13 : op = 13
    · subst h13; rfl
    by_cases h14 : op = 14
    · subst h14; rfl
    rw [if_neg (by omega), if_neg h11, if_neg h12, if_neg h13, if_neg h14]
  obtain ⟨pn, hpn⟩ : ∃ x, x = partN op d l v := ⟨_, rfl⟩
  obtain ⟨pd, hpd⟩ : ∃ x, x = partD op d l := ⟨_, rfl⟩
  rw [← hpn, ← hpd]
  have HPN := Lib.hid (hpn.trans PN)
  have HPD := Lib.hid (hpd.trans PD)
  clear PN PD hmm hbf' hbt' HL hpn hpd
  obtain ⟨vk, vn, vs⟩ := v
  go_enter Try.func19, Try.ntmps19
  go_upto_region 1 with fail
  obtain ⟨V, hV⟩ : ∃ V, V = (w.alloc (.cells #[.int .i64 d, .int .i64 nn, .slice q n c] 29)).alloc (.cells #[.int .i64 vk, .int .i64 vn, .string vs] 31) := ⟨_, rfl⟩
  rw [← hV]
  obtain ⟨b, hb⟩ : ∃ b, b = w.heap.size := ⟨_, rfl⟩
  have HBV := Lib.hid (show Below w.heap.size w V from by rw [hV]; exact ext_alloc (ext_alloc (ext_refl _) _) _)
  have hs0 : b < V.heap.size := by rw [hV, hb]; simp
  have hs1 : b + 1 < V.heap.size := by rw [hV, hb]; simp
  have b0 : V.cell? ⟨b, 0, none⟩ = some (.int .i64 d) := by rw [hV, hb]; simp [go_sem]
  have b1 : V.cell? ⟨b, 1, none⟩ = some (.int .i64 nn) := by rw [hV, hb]; simp [go_sem]
  have b2 : V.cell? ⟨b, 2, none⟩ = some (.slice q n c) := by rw [hV, hb]; simp [go_sem]
  have v0 : V.cell? ⟨b + 1, 0, none⟩ = some (.int .i64 vk) := by rw [hV, hb]; simp [go_sem]
  have v1 : V.cell? ⟨b + 1, 1, none⟩ = some (.int .i64 vn) := by rw [hV, hb]; simp [go_sem]
  have v2 : V.cell? ⟨b + 1, 2, none⟩ = some (.string vs) := by rw [hV, hb]; simp [go_sem]
  rw [← hb]
  have CD := rclip_any d
  clear hV hb
  obtain ⟨cd, hcd⟩ : ∃ cd, cd = clip d := ⟨_, rfl⟩
  rw [← hcd] at CD HD hdc
  clear hcd
  by_cases h1 : 1 < cd
  · have E0 : divr d = cd := by rw [HD.out, if_pos h1]
    rw [E0] at HPN HPD
    clear E0 HD hdd
    have hB0 := HBV.out
    go_upto_region 3 with (first | (go_at_call 11; refine (CD _).mono ?_; rintro e w1 ⟨rfl, rfl⟩) | (go_at_call 21; refine (HM.out _ HBV.out).mono ?_; rintro e W3 ⟨rfl, hb⟩))
    have m0 := (hb.cell (p := ⟨b, _, none⟩) hs0).trans b0
    have m1 := (hb.cell (p := ⟨b, _, none⟩) hs0).trans b1
    have m2 := (hb.cell (p := ⟨b, _, none⟩) hs0).trans b2
    have m3 := (hb.cell (p := ⟨b + 1, _, none⟩) hs1).trans v0
    have m4 := (hb.cell (p := ⟨b + 1, _, none⟩) hs1).trans v1
    have m5 := (hb.cell (p := ⟨b + 1, _, none⟩) hs1).trans v2
    have hs30 : b < W3.heap.size := Nat.lt_of_lt_of_le hs0 hb.size
    have hs31 : b + 1 < W3.heap.size := Nat.lt_of_lt_of_le hs1 hb.size
    have HB3 := Lib.hid (HBV.out.trans (hb.mono HBV.out.size))
    clear b0 b1 b2 v0 v1 v2 hs0 hs1 hb hB0 HM
    have HBE := HB3.out
    by_cases h9 : op = 9
    · subst h9
      have E1 := Lib.hid (show pn = 1 from (by have h := HPN.out; exact h))
      have E2 := Lib.hid (show pd = cd from (by have h := HPD.out; exact h))
      go_wp2_with (fail)
      (refine bodyPost_ret (v := .tuple #[.int .i64 (1), .int .i64 (cd)]) (by simp [results, Try.results19, go_sem, *]) rfl ⟨by (rw [E1.out, E2.out]), ?_⟩; (repeat (first | exact ext_refl _ | assumption | (refine ext_alloc ?_ _) | (refine ext_drewN ?_ _) | refine ext_drew ?_ | (refine ext_set (by first | (simp; done) | (simp; omega)) _ ?_) | (refine ext_trans ?_ (by assumption)))))
    by_cases h10 : op = 10
    · subst h10
      have hw1 : IntKind.i64.wrap (cd - 1) = cd - 1 := wrap_mid (by omega) (by omega)
      have E1 := Lib.hid (show pn = cd - 1 from (by have h := HPN.out; exact h))
      have E2 := Lib.hid (show pd = cd from (by have h := HPD.out; exact h))
      go_wp2_with (fail)
      (refine bodyPost_ret (v := .tuple #[.int .i64 (cd - 1), .int .i64 (cd)]) (by simp [results, Try.results19, go_sem, *]) rfl ⟨by (rw [E1.out, E2.out]), ?_⟩; (repeat (first | exact ext_refl _ | assumption | (refine ext_alloc ?_ _) | (refine ext_drewN ?_ _) | refine ext_drew ?_ | (refine ext_set (by first | (simp; done) | (simp; omega)) _ ?_) | (refine ext_trans ?_ (by assumption)))))
    by_cases h11 : op = 11
    · subst h11
      by_cases h2 : 1 < mm
      · have E1 := Lib.hid (show pn = bf from (by have h := HPN.out; exact h))
        have E2 := Lib.hid (show pd = mm from (by have h := HPD.out; have e := HDM.out; rw [HCM.out, if_pos h2] at e; exact h.trans e))
        go_wp2_with (go_at_call 23; refine (HLF.out _ HB3.out).mono ?_; rintro e w1 ⟨rfl, hb⟩; have hbb := HB3.out.trans (hb.mono HB3.out.size))
        (refine bodyPost_ret (v := .tuple #[.int .i64 (bf), .int .i64 (mm)]) (by simp [results, Try.results19, go_sem, *]) rfl ⟨by (rw [E1.out, E2.out]), ?_⟩; (repeat (first | exact ext_refl _ | assumption | (refine ext_alloc ?_ _) | (refine ext_drewN ?_ _) | refine ext_drew ?_ | (refine ext_set (by first | (simp; done) | (simp; omega)) _ ?_) | (refine ext_trans ?_ (by assumption)))))
      · have h2 : mm ≤ 1 := by omega
        have E1 := Lib.hid (show pn = bf from (by have h := HPN.out; exact h))
        have E2 := Lib.hid (show pd = 1 from (by have h := HPD.out; have e := HDM.out; rw [HCM.out, if_neg (by omega)] at e; exact h.trans e))
        go_wp2_with (go_at_call 23; refine (HLF.out _ HB3.out).mono ?_; rintro e w1 ⟨rfl, hb⟩; have hbb := HB3.out.trans (hb.mono HB3.out.size))
        (refine bodyPost_ret (v := .tuple #[.int .i64 (bf), .int .i64 (1)]) (by simp [results, Try.results19, go_sem, *]) rfl ⟨by (rw [E1.out, E2.out]), ?_⟩; (repeat (first | exact ext_refl _ | assumption | (refine ext_alloc ?_ _) | (refine ext_drewN ?_ _) | refine ext_drew ?_ | (refine ext_set (by first | (simp; done) | (simp; omega)) _ ?_) | (refine ext_trans ?_ (by assumption)))))
    by_cases h12 : op = 12
    · subst h12
      by_cases h2 : 1 < mm
      · have E1 := Lib.hid (show pn = bt from (by have h := HPN.out; exact h))
        have E2 := Lib.hid (show pd = mm from (by have h := HPD.out; have e := HDM.out; rw [HCM.out, if_pos h2] at e; exact h.trans e))
        go_wp2_with (go_at_call 23; refine (HLT.out _ HB3.out).mono ?_; rintro e w1 ⟨rfl, hb⟩; have hbb := HB3.out.trans (hb.mono HB3.out.size))
        (refine bodyPost_ret (v := .tuple #[.int .i64 (bt), .int .i64 (mm)]) (by simp [results, Try.results19, go_sem, *]) rfl ⟨by (rw [E1.out, E2.out]), ?_⟩; (repeat (first | exact ext_refl _ | assumption | (refine ext_alloc ?_ _) | (refine ext_drewN ?_ _) | refine ext_drew ?_ | (refine ext_set (by first | (simp; done) | (simp; omega)) _ ?_) | (refine ext_trans ?_ (by assumption)))))
      · have h2 : mm ≤ 1 := by omega
        have E1 := Lib.hid (show pn = bt from (by have h := HPN.out; exact h))
        have E2 := Lib.hid (show pd = 1 from (by have h := HPD.out; have e := HDM.out; rw [HCM.out, if_neg (by omega)] at e; exact h.trans e))
        go_wp2_with (go_at_call 23; refine (HLT.out _ HB3.out).mono ?_; rintro e w1 ⟨rfl, hb⟩; have hbb := HB3.out.trans (hb.mono HB3.out.size))
        (refine bodyPost_ret (v := .tuple #[.int .i64 (bt), .int .i64 (1)]) (by simp [results, Try.results19, go_sem, *]) rfl ⟨by (rw [E1.out, E2.out]), ?_⟩; (repeat (first | exact ext_refl _ | assumption | (refine ext_alloc ?_ _) | (refine ext_drewN ?_ _) | refine ext_drew ?_ | (refine ext_set (by first | (simp; done) | (simp; omega)) _ ?_) | (refine ext_trans ?_ (by assumption)))))
    by_cases h13 : op = 13
    · subst h13
      by_cases h2 : mm = 0
      · have h3 : (mm == 0) = true := by simpa using h2
        have E1 := Lib.hid (show pn = 1 from (by have h := HPN.out; have e := HDM.out; rw [HCM.out, if_neg (by omega)] at e; have h' : pn = divr mm - bt := h; omega))
        have E2 := Lib.hid (show pd = 1 from (by have h := HPD.out; have e := HDM.out; rw [HCM.out, if_neg (by omega)] at e; exact h.trans e))
        go_wp2_with (fail)
        (refine bodyPost_ret (v := .tuple #[.int .i64 (1), .int .i64 (1)]) (by simp [results, Try.results19, go_sem, *]) rfl ⟨by (rw [E1.out, E2.out]), ?_⟩; (repeat (first | exact ext_refl _ | assumption | (refine ext_alloc ?_ _) | (refine ext_drewN ?_ _) | refine ext_drew ?_ | (refine ext_set (by first | (simp; done) | (simp; omega)) _ ?_) | (refine ext_trans ?_ (by assumption)))))
      · have h3 : (mm == 0) = false := by simpa using h2
        have hw1 : IntKind.i64.wrap (mm - bt) = mm - bt := wrap_mid (by omega) (by omega)
        by_cases h5 : 0 < mm - bt
        · have E1 := Lib.hid (show pn = mm - bt from (by have h := HPN.out; have e := HDM.out; rw [HCM.out] at e; have e2 : (if 1 < mm then mm else 1) = mm := (by split <;> omega); rw [e2] at e; have h' : pn = divr mm - bt := h; omega))
          have E2 := Lib.hid (show pd = mm from (by have h := HPD.out; have e := HDM.out; rw [HCM.out] at e; have e2 : (if 1 < mm then mm else 1) = mm := (by split <;> omega); rw [e2] at e; exact h.trans e))
          go_wp2_with (go_at_call 23; refine (HLT.out _ HB3.out).mono ?_; rintro e w1 ⟨rfl, hb⟩; have hbb := HB3.out.trans (hb.mono HB3.out.size))
          (refine bodyPost_ret (v := .tuple #[.int .i64 (mm - bt), .int .i64 (mm)]) (by simp [results, Try.results19, go_sem, *]) rfl ⟨by (rw [E1.out, E2.out]), ?_⟩; (repeat (first | exact ext_refl _ | assumption | (refine ext_alloc ?_ _) | (refine ext_drewN ?_ _) | refine ext_drew ?_ | (refine ext_set (by first | (simp; done) | (simp; omega)) _ ?_) | (refine ext_trans ?_ (by assumption)))))
        · have h5 : mm - bt ≤ 0 := by omega
          have h6 : mm - bt = 0 := by omega
          have E1 := Lib.hid (show pn = mm - bt from (by have h := HPN.out; have e := HDM.out; rw [HCM.out] at e; have e2 : (if 1 < mm then mm else 1) = mm := (by split <;> omega); rw [e2] at e; have h' : pn = divr mm - bt := h; omega))
          have E2 := Lib.hid (show pd = mm from (by have h := HPD.out; have e := HDM.out; rw [HCM.out] at e; have e2 : (if 1 < mm then mm else 1) = mm := (by split <;> omega); rw [e2] at e; exact h.trans e))
          go_wp2_with (go_at_call 23; refine (HLT.out _ HB3.out).mono ?_; rintro e w1 ⟨rfl, hb⟩; have hbb := HB3.out.trans (hb.mono HB3.out.size))
          (refine bodyPost_ret (v := .tuple #[.int .i64 0, .int .i64 (mm)]) (by simp [results, Try.results19, go_sem, *]) rfl ⟨by (rw [E1.out, E2.out, h6]), ?_⟩; (repeat (first | exact ext_refl _ | assumption | (refine ext_alloc ?_ _) | (refine ext_drewN ?_ _) | refine ext_drew ?_ | (refine ext_set (by first | (simp; done) | (simp; omega)) _ ?_) | (refine ext_trans ?_ (by assumption)))))
    by_cases h14 : op = 14
    · subst h14
      by_cases h2 : mm = 0
      · have h3 : (mm == 0) = true := by simpa using h2
        have E1 := Lib.hid (show pn = 1 from (by have h := HPN.out; have e := HDM.out; rw [HCM.out, if_neg (by omega)] at e; have h' : pn = divr mm - bf := h; omega))
        have E2 := Lib.hid (show pd = 1 from (by have h := HPD.out; have e := HDM.out; rw [HCM.out, if_neg (by omega)] at e; exact h.trans e))
        go_wp2_with (fail)
        (refine bodyPost_ret (v := .tuple #[.int .i64 (1), .int .i64 (1)]) (by simp [results, Try.results19, go_sem, *]) rfl ⟨by (rw [E1.out, E2.out]), ?_⟩; (repeat (first | exact ext_refl _ | assumption | (refine ext_alloc ?_ _) | (refine ext_drewN ?_ _) | refine ext_drew ?_ | (refine ext_set (by first | (simp; done) | (simp; omega)) _ ?_) | (refine ext_trans ?_ (by assumption)))))
      · have h3 : (mm == 0) = false := by simpa using h2
        have hw1 : IntKind.i64.wrap (mm - bf) = mm - bf := wrap_mid (by omega) (by omega)
        by_cases h5 : 0 < mm - bf
        · have E1 := Lib.hid (show pn = mm - bf from (by have h := HPN.out; have e := HDM.out; rw [HCM.out] at e; have e2 : (if 1 < mm then mm else 1) = mm := (by split <;> omega); rw [e2] at e; have h' : pn = divr mm - bf := h; omega))
          have E2 := Lib.hid (show pd = mm from (by have h := HPD.out; have e := HDM.out; rw [HCM.out] at e; have e2 : (if 1 < mm then mm else 1) = mm := (by split <;> omega); rw [e2] at e; exact h.trans e))
          go_wp2_with (go_at_call 23; refine (HLF.out _ HB3.out).mono ?_; rintro e w1 ⟨rfl, hb⟩; have hbb := HB3.out.trans (hb.mono HB3.out.size))
          (refine bodyPost_ret (v := .tuple #[.int .i64 (mm - bf), .int .i64 (mm)]) (by simp [results, Try.results19, go_sem, *]) rfl ⟨by (rw [E1.out, E2.out]), ?_⟩; (repeat (first | exact ext_refl _ | assumption | (refine ext_alloc ?_ _) | (refine ext_drewN ?_ _) | refine ext_drew ?_ | (refine ext_set (by first | (simp; done) | (simp; omega)) _ ?_) | (refine ext_trans ?_ (by assumption)))))
        · have h5 : mm - bf ≤ 0 := by omega
          have h6 : mm - bf = 0 := by omega
          have E1 := Lib.hid (show pn = mm - bf from (by have h := HPN.out; have e := HDM.out; rw [HCM.out] at e; have e2 : (if 1 < mm then mm else 1) = mm := (by split <;> omega); rw [e2] at e; have h' : pn = divr mm - bf := h; omega))
          have E2 := Lib.hid (show pd = mm from (by have h := HPD.out; have e := HDM.out; rw [HCM.out] at e; have e2 : (if 1 < mm then mm else 1) = mm := (by split <;> omega); rw [e2] at e; exact h.trans e))
          go_wp2_with (go_at_call 23; refine (HLF.out _ HB3.out).mono ?_; rintro e w1 ⟨rfl, hb⟩; have hbb := HB3.out.trans (hb.mono HB3.out.size))
          (refine bodyPost_ret (v := .tuple #[.int .i64 0, .int .i64 (mm)]) (by simp [results, Try.results19, go_sem, *]) rfl ⟨by (rw [E1.out, E2.out, h6]), ?_⟩; (repeat (first | exact ext_refl _ | assumption | (refine ext_alloc ?_ _) | (refine ext_drewN ?_ _) | refine ext_drew ?_ | (refine ext_set (by first | (simp; done) | (simp; omega)) _ ?_) | (refine ext_trans ?_ (by assumption)))))
    have E1 := Lib.hid (show pn = 1 by rw [HPN.out, if_neg h9, if_neg h10, if_neg h11, if_neg h12, if_neg h13, if_neg h14])
    have E2 := Lib.hid (show pd = 3 by rw [HPD.out, if_neg h9, if_neg h10, if_neg h11, if_neg h12, if_neg h13, if_neg h14])
    go_wp2_with (fail)
    (refine bodyPost_ret (v := .tuple #[.int .i64 (1), .int .i64 (3)]) (by simp [results, Try.results19, go_sem, *]) rfl ⟨by (rw [E1.out, E2.out]), ?_⟩; (repeat (first | exact ext_refl _ | assumption | (refine ext_alloc ?_ _) | (refine ext_drewN ?_ _) | refine ext_drew ?_ | (refine ext_set (by first | (simp; done) | (simp; omega)) _ ?_) | (refine ext_trans ?_ (by assumption)))))
  · have h1 : cd ≤ 1 := by omega
    have E0 : divr d = 1 := by rw [HD.out, if_neg (by omega)]
    rw [E0] at HPN HPD
    clear E0 HD hdd
    have hB0 := HBV.out
    go_upto_region 3 with (first | (go_at_call 11; refine (CD _).mono ?_; rintro e w1 ⟨rfl, rfl⟩) | (go_at_call 21; refine (HM.out _ HBV.out).mono ?_; rintro e W3 ⟨rfl, hb⟩))
    have m0 := (hb.cell (p := ⟨b, _, none⟩) hs0).trans b0
    have m1 := (hb.cell (p := ⟨b, _, none⟩) hs0).trans b1
    have m2 := (hb.cell (p := ⟨b, _, none⟩) hs0).trans b2
    have m3 := (hb.cell (p := ⟨b + 1, _, none⟩) hs1).trans v0
    have m4 := (hb.cell (p := ⟨b + 1, _, none⟩) hs1).trans v1
    have m5 := (hb.cell (p := ⟨b + 1, _, none⟩) hs1).trans v2
    have hs30 : b < W3.heap.size := Nat.lt_of_lt_of_le hs0 hb.size
    have hs31 : b + 1 < W3.heap.size := Nat.lt_of_lt_of_le hs1 hb.size
    have HB3 := Lib.hid (HBV.out.trans (hb.mono HBV.out.size))
    clear b0 b1 b2 v0 v1 v2 hs0 hs1 hb hB0 HM
    have HBE := HB3.out
    by_cases h9 : op = 9
    · subst h9
      have E1 := Lib.hid (show pn = 1 from (by have h := HPN.out; exact h))
      have E2 := Lib.hid (show pd = 1 from (by have h := HPD.out; exact h))
      go_wp2_with (fail)
      (refine bodyPost_ret (v := .tuple #[.int .i64 (1), .int .i64 (1)]) (by simp [results, Try.results19, go_sem, *]) rfl ⟨by (rw [E1.out, E2.out]), ?_⟩; (repeat (first | exact ext_refl _ | assumption | (refine ext_alloc ?_ _) | (refine ext_drewN ?_ _) | refine ext_drew ?_ | (refine ext_set (by first | (simp; done) | (simp; omega)) _ ?_) | (refine ext_trans ?_ (by assumption)))))
    by_cases h10 : op = 10
    · subst h10
      have hw1 : IntKind.i64.wrap (1 - 1) = 1 - 1 := wrap_mid (by omega) (by omega)
      have E1 := Lib.hid (show pn = 1 - 1 from (by have h := HPN.out; exact h))
      have E2 := Lib.hid (show pd = 1 from (by have h := HPD.out; exact h))
      go_wp2_with (fail)
      (refine bodyPost_ret (v := .tuple #[.int .i64 (1 - 1), .int .i64 (1)]) (by simp [results, Try.results19, go_sem, *]) rfl ⟨by (rw [E1.out, E2.out]), ?_⟩; (repeat (first | exact ext_refl _ | assumption | (refine ext_alloc ?_ _) | (refine ext_drewN ?_ _) | refine ext_drew ?_ | (refine ext_set (by first | (simp; done) | (simp; omega)) _ ?_) | (refine ext_trans ?_ (by assumption)))))
    by_cases h11 : op = 11
    · subst h11
      by_cases h2 : 1 < mm
      · have E1 := Lib.hid (show pn = bf from (by have h := HPN.out; exact h))
        have E2 := Lib.hid (show pd = mm from (by have h := HPD.out; have e := HDM.out; rw [HCM.out, if_pos h2] at e; exact h.trans e))
        go_wp2_with (go_at_call 23; refine (HLF.out _ HB3.out).mono ?_; rintro e w1 ⟨rfl, hb⟩; have hbb := HB3.out.trans (hb.mono HB3.out.size))
        (refine bodyPost_ret (v := .tuple #[.int .i64 (bf), .int .i64 (mm)]) (by simp [results, Try.results19, go_sem, *]) rfl ⟨by (rw [E1.out, E2.out]), ?_⟩; (repeat (first | exact ext_refl _ | assumption | (refine ext_alloc ?_ _) | (refine ext_drewN ?_ _) | refine ext_drew ?_ | (refine ext_set (by first | (simp; done) | (simp; omega)) _ ?_) | (refine ext_trans ?_ (by assumption)))))
      · have h2 : mm ≤ 1 := by omega
        have E1 := Lib.hid (show pn = bf from (by have h := HPN.out; exact h))
        have E2 := Lib.hid (show pd = 1 from (by have h := HPD.out; have e := HDM.out; rw [HCM.out, if_neg (by omega)] at e; exact h.trans e))
        go_wp2_with (go_at_call 23; refine (HLF.out _ HB3.out).mono ?_; rintro e w1 ⟨rfl, hb⟩; have hbb := HB3.out.trans (hb.mono HB3.out.size))
        (refine bodyPost_ret (v := .tuple #[.int .i64 (bf), .int .i64 (1)]) (by simp [results, Try.results19, go_sem, *]) rfl ⟨by (rw [E1.out, E2.out]), ?_⟩; (repeat (first | exact ext_refl _ | assumption | (refine ext_alloc ?_ _) | (refine ext_drewN ?_ _) | refine ext_drew ?_ | (refine ext_set (by first | (simp; done) | (simp; omega)) _ ?_) | (refine ext_trans ?_ (by assumption)))))
    by_cases h12 : op = 12
    · subst h12
      by_cases h2 : 1 < mm
      · have E1 := Lib.hid (show pn = bt from (by have h := HPN.out; exact h))
        have E2 := Lib.hid (show pd = mm from (by have h := HPD.out; have e := HDM.out; rw [HCM.out, if_pos h2] at e; exact h.trans e))
        go_wp2_with (go_at_call 23; refine (HLT.out _ HB3.out).mono ?_; rintro e w1 ⟨rfl, hb⟩; have hbb := HB3.out.trans (hb.mono HB3.out.size))
        (refine bodyPost_ret (v := .tuple #[.int .i64 (bt), .int .i64 (mm)]) (by simp [results, Try.results19, go_sem, *]) rfl ⟨by (rw [E1.out, E2.out]), ?_⟩; (repeat (first | exact ext_refl _ | assumption | (refine ext_alloc ?_ _) | (refine ext_drewN ?_ _) | refine ext_drew ?_ | (refine ext_set (by first | (simp; done) | (simp; omega)) _ ?_) | (refine ext_trans ?_ (by assumption)))))
      · have h2 : mm ≤ 1 := by omega
        have E1 := Lib.hid (show pn = bt from (by have h := HPN.out; exact h))
        have E2 := Lib.hid (show pd = 1 from (by have h := HPD.out; have e := HDM.out; rw [HCM.out, if_neg (by omega)] at e; exact h.trans e))
        go_wp2_with (go_at_call 23; refine (HLT.out _ HB3.out).mono ?_; rintro e w1 ⟨rfl, hb⟩; have hbb := HB3.out.trans (hb.mono HB3.out.size))
        (refine bodyPost_ret (v := .tuple #[.int .i64 (bt), .int .i64 (1)]) (by simp [results, Try.results19, go_sem, *]) rfl ⟨by (rw [E1.out, E2.out]), ?_⟩; (repeat (first | exact ext_refl _ | assumption | (refine ext_alloc ?_ _) | (refine ext_drewN ?_ _) | refine ext_drew ?_ | (refine ext_set (by first | (simp; done) | (simp; omega)) _ ?_) | (refine ext_trans ?_ (by assumption)))))
    by_cases h13 : op = 13
    · subst h13
      by_cases h2 : mm = 0
      · have h3 : (mm == 0) = true := by simpa using h2
        have E1 := Lib.hid (show pn = 1 from (by have h := HPN.out; have e := HDM.out; rw [HCM.out, if_neg (by omega)] at e; have h' : pn = divr mm - bt := h; omega))
        have E2 := Lib.hid (show pd = 1 from (by have h := HPD.out; have e := HDM.out; rw [HCM.out, if_neg (by omega)] at e; exact h.trans e))
        go_wp2_with (fail)
        (refine bodyPost_ret (v := .tuple #[.int .i64 (1), .int .i64 (1)]) (by simp [results, Try.results19, go_sem, *]) rfl ⟨by (rw [E1.out, E2.out]), ?_⟩; (repeat (first | exact ext_refl _ | assumption | (refine ext_alloc ?_ _) | (refine ext_drewN ?_ _) | refine ext_drew ?_ | (refine ext_set (by first | (simp; done) | (simp; omega)) _ ?_) | (refine ext_trans ?_ (by assumption)))))
      · have h3 : (mm == 0) = false := by simpa using h2
        have hw1 : IntKind.i64.wrap (mm - bt) = mm - bt := wrap_mid (by omega) (by omega)
        by_cases h5 : 0 < mm - bt
        · have E1 := Lib.hid (show pn = mm - bt from (by have h := HPN.out; have e := HDM.out; rw [HCM.out] at e; have e2 : (if 1 < mm then mm else 1) = mm := (by split <;> omega); rw [e2] at e; have h' : pn = divr mm - bt := h; omega))
          have E2 := Lib.hid (show pd = mm from (by have h := HPD.out; have e := HDM.out; rw [HCM.out] at e; have e2 : (if 1 < mm then mm else 1) = mm := (by split <;> omega); rw [e2] at e; exact h.trans e))
          go_wp2_with (go_at_call 23; refine (HLT.out _ HB3.out).mono ?_; rintro e w1 ⟨rfl, hb⟩; have hbb := HB3.out.trans (hb.mono HB3.out.size))
          (refine bodyPost_ret (v := .tuple #[.int .i64 (mm - bt), .int .i64 (mm)]) (by simp [results, Try.results19, go_sem, *]) rfl ⟨by (rw [E1.out, E2.out]), ?_⟩; (repeat (first | exact ext_refl _ | assumption | (refine ext_alloc ?_ _) | (refine ext_drewN ?_ _) | refine ext_drew ?_ | (refine ext_set (by first | (simp; done) | (simp; omega)) _ ?_) | (refine ext_trans ?_ (by assumption)))))
        · have h5 : mm - bt ≤ 0 := by omega
          have h6 : mm - bt = 0 := by omega
          have E1 := Lib.hid (show pn = mm - bt from (by have h := HPN.out; have e := HDM.out; rw [HCM.out] at e; have e2 : (if 1 < mm then mm else 1) = mm := (by split <;> omega); rw [e2] at e; have h' : pn = divr mm - bt := h; omega))
          have E2 := Lib.hid (show pd = mm from (by have h := HPD.out; have e := HDM.out; rw [HCM.out] at e; have e2 : (if 1 < mm then mm else 1) = mm := (by split <;> omega); rw [e2] at e; exact h.trans e))
          go_wp2_with (go_at_call 23; refine (HLT.out _ HB3.out).mono ?_; rintro e w1 ⟨rfl, hb⟩; have hbb := HB3.out.trans (hb.mono HB3.out.size))
          (refine bodyPost_ret (v := .tuple #[.int .i64 0, .int .i64 (mm)]) (by simp [results, Try.results19, go_sem, *]) rfl ⟨by (rw [E1.out, E2.out, h6]), ?_⟩; (repeat (first | exact ext_refl _ | assumption | (refine ext_alloc ?_ _) | (refine ext_drewN ?_ _) | refine ext_drew ?_ | (refine ext_set (by first | (simp; done) | (simp; omega)) _ ?_) | (refine ext_trans ?_ (by assumption)))))
    by_cases h14 : op = 14
    · subst h14
      by_cases h2 : mm = 0
      · have h3 : (mm == 0) = true := by simpa using h2
        have E1 := Lib.hid (show pn = 1 from (by have h := HPN.out; have e := HDM.out; rw [HCM.out, if_neg (by omega)] at e; have h' : pn = divr mm - bf := h; omega))
        have E2 := Lib.hid (show pd = 1 from (by have h := HPD.out; have e := HDM.out; rw [HCM.out, if_neg (by omega)] at e; exact h.trans e))
        go_wp2_with (fail)
        (refine bodyPost_ret (v := .tuple #[.int .i64 (1), .int .i64 (1)]) (by simp [results, Try.results19, go_sem, *]) rfl ⟨by (rw [E1.out, E2.out]), ?_⟩; (repeat (first | exact ext_refl _ | assumption | (refine ext_alloc ?_ _) | (refine ext_drewN ?_ _) | refine ext_drew ?_ | (refine ext_set (by first | (simp; done) | (simp; omega)) _ ?_) | (refine ext_trans ?_ (by assumption)))))
      · have h3 : (mm == 0) = false := by simpa using h2
        have hw1 : IntKind.i64.wrap (mm - bf) = mm - bf := wrap_mid (by omega) (by omega)
        by_cases h5 : 0 < mm - bf
        · have E1 := Lib.hid (show pn = mm - bf from (by have h := HPN.out; have e := HDM.out; rw [HCM.out] at e; have e2 : (if 1 < mm then mm else 1) = mm := (by split <;> omega); rw [e2] at e; have h' : pn = divr mm - bf := h; omega))
          have E2 := Lib.hid (show pd = mm from (by have h := HPD.out; have e := HDM.out; rw [HCM.out] at e; have e2 : (if 1 < mm then mm else 1) = mm := (by split <;> omega); rw [e2] at e; exact h.trans e))
          go_wp2_with (go_at_call 23; refine (HLF.out _ HB3.out).mono ?_; rintro e w1 ⟨rfl, hb⟩; have hbb := HB3.out.trans (hb.mono HB3.out.size))
          (refine bodyPost_ret (v := .tuple #[.int .i64 (mm - bf), .int .i64 (mm)]) (by simp [results, Try.results19, go_sem, *]) rfl ⟨by (rw [E1.out, E2.out]), ?_⟩; (repeat (first | exact ext_refl _ | assumption | (refine ext_alloc ?_ _) | (refine ext_drewN ?_ _) | refine ext_drew ?_ | (refine ext_set (by first | (simp; done) | (simp; omega)) _ ?_) | (refine ext_trans ?_ (by assumption)))))
        · have h5 : mm - bf ≤ 0 := by omega
          have h6 : mm - bf = 0 := by omega
          have E1 := Lib.hid (show pn = mm - bf from (by have h := HPN.out; have e := HDM.out; rw [HCM.out] at e; have e2 : (if 1 < mm then mm else 1) = mm := (by split <;> omega); rw [e2] at e; have h' : pn = divr mm - bf := h; omega))
          have E2 := Lib.hid (show pd = mm from (by have h := HPD.out; have e := HDM.out; rw [HCM.out] at e; have e2 : (if 1 < mm then mm else 1) = mm := (by split <;> omega); rw [e2] at e; exact h.trans e))
          go_wp2_with (go_at_call 23; refine (HLF.out _ HB3.out).mono ?_; rintro e w1 ⟨rfl, hb⟩; have hbb := HB3.out.trans (hb.mono HB3.out.size))
          (refine bodyPost_ret (v := .tuple #[.int .i64 0, .int .i64 (mm)]) (by simp [results, Try.results19, go_sem, *]) rfl ⟨by (rw [E1.out, E2.out, h6]), ?_⟩; (repeat (first | exact ext_refl _ | assumption | (refine ext_alloc ?_ _) | (refine ext_drewN ?_ _) | refine ext_drew ?_ | (refine ext_set (by first | (simp; done) | (simp; omega)) _ ?_) | (refine ext_trans ?_ (by assumption)))))
    have E1 := Lib.hid (show pn = 1 by rw [HPN.out, if_neg h9, if_neg h10, if_neg h11, if_neg h12, if_neg h13, if_neg h14])
    have E2 := Lib.hid (show pd = 3 by rw [HPD.out, if_neg h9, if_neg h10, if_neg h11, if_neg h12, if_neg h13, if_neg h14])
    go_wp2_with (fail)
    (refine bodyPost_ret (v := .tuple #[.int .i64 (1), .int .i64 (3)]) (by simp [results, Try.results19, go_sem, *]) rfl ⟨by (rw [E1.out, E2.out]), ?_⟩; (repeat (first | exact ext_refl _ | assumption | (refine ext_alloc ?_ _) | (refine ext_drewN ?_ _) | refine ext_drew ?_ | (refine ext_set (by first | (simp; done) | (simp; omega)) _ ?_) | (refine ext_trans ?_ (by assumption)))))

end Go.Proofs.Ytkgdbpfpjpiejaa
