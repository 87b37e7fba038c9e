/- The merge of two sorted ranges in place: whatever the ranges (the left one is the longer). -/
import Derived.Test.YtflbeccfdbjbhaaIsA
import Derived.Deep.Cut
namespace Go.Proofs.Ytflbeccfdbjbhaa
open Go.RowKit
open Go.Sort (swp PermIn SortedIn SWO Ins)

set_option maxRecDepth 100000 in
set_option maxHeartbeats 8000000 in
theorem sym_far (R : Rws) (W0 : World) (g cap a m b : Nat) (d : Array Nat) (w : World) (hS : SWO R.lt) (hok : R.ok W0) (S : SW R W0 g d w) (ham : a < m) (hmb : m < b) (hb : b ≤ d.size) (hsz : d.size ≤ 1073741824) (hs1 : SortedIn R.lt a m d) (hs2 : SortedIn R.lt m b d) (hL : Lo a m b d)
    (ih : ∀ (a' m' b' : Nat) (d' : Array Nat) (w' : World), b' - a' < b - a → a' < m' → m' < b' → b' ≤ d'.size → d'.size ≤ 1073741824 → SW R W0 g d' w' → SortedIn R.lt a' m' d' → SortedIn R.lt m' b' d' → Lo a' m' b' d' →
      Calls Try.prog 32 #[.slice (some ⟨g, 0, none⟩) d'.size cap, .int .i64 a', .int .i64 m', .int .i64 b', .func (.func 26) #[] #[R.c1, R.c2]] w' fun e w' => e = .returned (.tuple #[]) ∧ ∃ d'', SW R W0 g d'' w' ∧ PermIn a' b' d' d'' ∧ SortedIn R.lt a' b' d'')
    (h1a : a + 1 < m) (h1b : m + 1 < b) (M : Nat) (HM : Hid ((a + b) / 2 = M)) (hmM : M < m) :
    Calls Try.prog 32 #[.slice (some ⟨g, 0, none⟩) d.size cap, .int .i64 a, .int .i64 m, .int .i64 b, .func (.func 26) #[] #[R.c1, R.c2]] w fun e w' => e = .returned (.tuple #[]) ∧ ∃ d', SW R W0 g d' w' ∧ PermIn a b d d' ∧ SortedIn R.lt a b d' := by
  have y1 : (((m : Int) - (a : Int)) == 1) = false := by rw [beq_eq_false_iff_ne]; omega
  have y2 : (((b : Int) - (m : Int)) == 1) = false := by rw [beq_eq_false_iff_ne]; omega
  have hM1 : 2 * M ≤ a + b := by have := HM.out; omega
  have hM2 : a + b ≤ 2 * M + 1 := by have := HM.out; omega
  have zM : ((a : Int) + (b : Int)) / 2 = (M : Int) := by omega
  have y3 : (m : Int) > (M : Int) := by omega
  have y4 : decide ((m : Int) > (M : Int)) = true := decide_eq_true y3
  have HL := Lib.hid hL
  clear hL
  go_enter Try.func32, Try.ntmps32
  go_wp2_with fail
  go_loopw [20, 21] (fun vs vr wr => ∃ (s r : Nat), vs = .int .i64 s ∧ vr = .int .i64 r ∧ (M + m - b) ≤ s ∧ s ≤ r ∧ r ≤ M ∧ Hid (SW R W0 g d wr ∧ (∀ c, (M + m - b) ≤ c → c < s → R.lt d[M + m - 1 - c]! d[c]! = false) ∧ ∀ c, r ≤ c → c < M → R.lt d[M + m - 1 - c]! d[c]! = true)) (fun vs vr _ => (intOf vr).toNat - (intOf vs).toNat)
  case atStart => exact ⟨(M + m - b), M, by first | rfl | (exact congrArg (Value.int .i64) (by omega)), rfl, by omega, by omega, by omega, ⟨S, fun c h1 h2 => by omega, fun c h1 h2 => by omega⟩⟩
  case round =>
    clear S y1 y2 zM
    obtain ⟨s, r, rfl, rfl, hs0, hsr, hrh, HH⟩ := hrel
    by_cases hlt : s < r
    · obtain ⟨c, hh⟩ : ∃ c, c = (s + r) / 2 := ⟨_, rfl⟩
      have hh1 : s ≤ c ∧ c < r := by omega
      have hz : ((s : Int) + (r : Int)) / 2 = (c : Int) := by omega
      obtain ⟨pc, hp1, hp2⟩ : ∃ pc, pc + c + 1 ≤ M + m ∧ M + m ≤ pc + c + 1 := ⟨M + m - 1 - c, by omega, by omega⟩
      have hpz : (M : Int) + (m : Int) - 1 - (c : Int) = (pc : Int) := by omega
      have HP := Lib.hid (show M + m - 1 - c = pc by omega)
      have Sj := HH.out.1
      have hl := Sj.lt
      have q0 := fun (z : After wr) => (z.cell g pc hl).trans (Sj.cell pc (by omega))
      have q1 := fun (z : After wr) => (z.cell g c hl).trans (Sj.cell c (by omega))
      have hcm := Lib.hid (fun W' hb => Sj.cmp hok d[pc]! d[c]! (Sj.num pc (by omega)) (Sj.num c (by omega)) W' hb)
      have is := After.some wr
      have z1 : (pc : Int) < (d.size : Int) := by omega
      have z2 : (c : Int) < (d.size : Int) := by omega
      have z5 : IntKind.i64.wrap (pc : Int) = (pc : Int) := by rw [IntKind.wrap_i64]; omega
      have z6 : IntKind.i64.wrap (c : Int) = (c : Int) := by rw [IntKind.wrap_i64]; omega
      clear Sj hh
      cases hv : R.lt d[pc]! d[c]! with
      | true =>
        have hd : decide (R.cf d[pc]! d[c]! < 0) = true := R.yes hv (HL.out c pc (by omega) (by omega) (by omega) (by omega))
        go_wp2_with fail
        refine wp_region_after (by kernel_rfl) (by kernel_rfl) ?_
        repeat (quiet_step ((first | (go_at_call 26; exact calls_after (hcm.out _ (After.below _))))))
        refine wpQuiet_nil ?_
        intro _ hw
        obtain ⟨⟨W1, hb1⟩, rfl⟩ := hw
        clear q0 q1 is hcm
        have S1 := HH.out.1.ext hb1
        go_wp2
        go_roundw
        case rel =>
          refine ⟨s, c, rfl, rfl, by omega, by omega, by omega, ⟨S1, HH.out.2.1, fun k h1 h2 => ?_⟩⟩
          have := cut_right hS hs1 hs2 (c := c) (c' := k) (by omega) h1 (by omega) (by rw [HM.out]; omega) (by rw [HM.out]; omega) (by rw [HM.out, HP.out]; exact hv)
          rwa [HM.out] at this
        case measure => simp [intOf]; omega
      | false =>
        have hd : decide (R.cf d[pc]! d[c]! < 0) = false := R.yes hv (HL.out c pc (by omega) (by omega) (by omega) (by omega))
        go_wp2_with fail
        refine wp_region_after (by kernel_rfl) (by kernel_rfl) ?_
        repeat (quiet_step ((first | (go_at_call 26; exact calls_after (hcm.out _ (After.below _))))))
        refine wpQuiet_nil ?_
        intro _ hw
        obtain ⟨⟨W1, hb1⟩, rfl⟩ := hw
        clear q0 q1 is hcm
        have S1 := HH.out.1.ext hb1
        go_wp2
        go_roundw
        case rel =>
          refine ⟨c + 1, r, by go_num, rfl, by omega, by omega, by omega, ⟨S1, fun k h1 h2 => ?_, HH.out.2.2⟩⟩
          have := cut_left hS hs1 hs2 (c := c) (c' := k) (by omega) (by omega) (by omega) (by rw [HM.out]; omega) (by rw [HM.out]; omega) (by rw [HM.out, HP.out]; exact hv)
          rwa [HM.out] at this
        case measure => simp [intOf]; omega
    · have hsr : s = r := by omega
      subst hsr
      obtain ⟨E, hE1, hE2⟩ : ∃ E, E + s ≤ M + m ∧ M + m ≤ E + s := ⟨M + m - s, by omega, by omega⟩
      have zE : (M : Int) + (m : Int) - (s : Int) = (E : Int) := by omega
      have HE := Lib.hid (show M + m - s = E by omega)
      have HC : Cut R.lt d a m b s := ⟨by rw [HM.out]; omega, by rw [HM.out]; omega, fun c h1 h2 h3 => by rw [HM.out] at h2 ⊢; exact HH.out.2.1 c (by omega) h3, fun c h1 h2 h3 => by rw [HM.out] at h3 ⊢; exact HH.out.2.2 c h1 (by omega)⟩
      by_cases r0 : s < m ∧ m < E
      · have b1 : (s : Int) < (m : Int) := by omega
        have b2 : (m : Int) < (E : Int) := by omega
        go_wp2_with fail
        refine (rotate_any R W0 g cap s m E a b d wr HH.out.1 r0.1 r0.2 (by omega) (by omega) hb (by omega)).mono ?_
        rintro _ w7 ⟨rfl, e7, S7, P7, h7⟩
        have soL := cut_rot2 hS ham hmb hs1 hs2 HL.out HC (e := e7) (fun k => by rw [h7, HM.out, HE.out])
        rw [HM.out, HE.out] at soL
        obtain ⟨so, lo⟩ := soL
        by_cases r1 : a < s ∧ s < M
        · have b3 : (a : Int) < (s : Int) := by omega
          have b4 : (s : Int) < (M : Int) := by omega
          go_wp2_with fail
          have hc := ih a s M e7 w7 (by omega) r1.1 r1.2 (by have := P7.1; omega) (by have := P7.1; omega) S7 so.1 so.2.1 lo.1
          rw [show e7.size = d.size from P7.1] at hc
          refine hc.mono ?_
          rintro _ w8 ⟨rfl, e8, S8, P8, so8⟩
          have PP : PermIn a b d e8 := permIn_trans P7 (Go.Sort.permIn_mono _ _ _ _ _ _ (Nat.le_refl _) (by omega) (by have := P7.1; omega) P8)
          have soo : SortedIn R.lt a M e8 ∧ SortedIn R.lt M E e8 ∧ SortedIn R.lt E b e8 ∧ ∀ i j, a ≤ i → i < M → M ≤ j → j < b → R.lt e8[j]! e8[i]! = false := by
            refine ⟨so8, fun p q h1 h2 h3 => ?_, fun p q h1 h2 h3 => ?_, fun p q h1 h2 h3 h4 => ?_⟩
            · rw [P8.2.1 p (.inr (by omega)), P8.2.1 q (.inr (by omega))]; exact so.2.2.1 p q h1 h2 h3
            · rw [P8.2.1 p (.inr (by omega)), P8.2.1 q (.inr (by omega))]; exact so.2.2.2.1 p q h1 h2 h3
            · rw [P8.2.1 q (.inr (by omega))]
              exact Go.Sort.permIn_all e7 e8 a M (fun y => R.lt e7[q]! y = false) (by have := P7.1; omega) P8 (fun i h5 h6 => so.2.2.2.2 i q h5 h6 h3 h4) p h1 h2
          have lo8 : Lo M E b e8 := fun p q h1 h2 h3 h4 => by rw [P8.2.1 p (.inr (by omega)), P8.2.1 q (.inr (by omega))]; exact lo.2 p q h1 h2 h3 h4
          clear P8 so8
          by_cases r2 : M < E ∧ E < b
          · have b5 : decide ((M : Int) < (E : Int)) = true := decide_eq_true (by omega)
            have b6 : decide ((E : Int) < (b : Int)) = true := decide_eq_true (by omega)
            have b7 : (M : Int) < (E : Int) := by omega
            have b8 : (E : Int) < (b : Int) := by omega
            go_wp2_with fail
            have hc := ih M E b e8 w8 (by omega) r2.1 r2.2 (by have := PP.1; omega) (by have := PP.1; omega) S8 soo.2.1 soo.2.2.1 lo8
            rw [show e8.size = d.size from PP.1] at hc
            refine hc.mono ?_
            rintro _ w9 ⟨rfl, e9, S9, P9, so9⟩
            go_wp2
            go_end0
            refine ⟨rfl, e9, S9, permIn_trans PP (Go.Sort.permIn_mono _ _ _ _ _ _ (by omega) (Nat.le_refl _) (by have := PP.1; omega) P9), halves (m := M) (fun p q h1 h2 h3 => ?_) so9 (fun p q h1 h2 h3 h4 => ?_)⟩
            · rw [P9.2.1 p (.inl (by omega)), P9.2.1 q (.inl (by omega))]
              exact soo.1 p q h1 h2 h3
            · rw [P9.2.1 p (.inl (by omega))]
              exact Go.Sort.permIn_all e8 e9 M b (fun y => R.lt y e8[p]! = false) (by have := PP.1; omega) P9 (fun j h5 h6 => soo.2.2.2 p j h1 h2 h5 h6) q h3 h4
          · have b56 : (decide ((M : Int) < (E : Int)) && decide ((E : Int) < (b : Int))) = false := by
              rw [← Bool.not_eq_true, Bool.and_eq_true, decide_eq_true_eq, decide_eq_true_eq]
              omega
            have hx : SortedIn R.lt M b e8 := by
              by_cases q : M < E
              · rw [show b = E by omega]; exact soo.2.1
              · rw [show M = E by omega]; exact soo.2.2.1
            by_cases q5 : (M : Int) < (E : Int)
            · have q6 : ¬ (E : Int) < (b : Int) := by omega
              go_wp2
              all_goals go_end0
              all_goals exact ⟨rfl, e8, S8, PP, halves (m := M) soo.1 hx soo.2.2.2⟩
            · go_wp2
              all_goals go_end0
              all_goals exact ⟨rfl, e8, S8, PP, halves (m := M) soo.1 hx soo.2.2.2⟩
        · have soo : SortedIn R.lt a M e7 ∧ SortedIn R.lt M E e7 ∧ SortedIn R.lt E b e7 ∧ ∀ i j, a ≤ i → i < M → M ≤ j → j < b → R.lt e7[j]! e7[i]! = false := by
            refine ⟨?_, so.2.2.1, so.2.2.2.1, so.2.2.2.2⟩
            by_cases q : a < s
            · rw [show M = s by omega]; exact so.1
            · rw [show a = s by omega]; exact so.2.1
          by_cases q3 : (a : Int) < (s : Int)
          · have q4 : ¬ (s : Int) < (M : Int) := by omega
            exfalso
            omega
          · go_upto_region 43 with fail
            by_cases r2 : M < E ∧ E < b
            · have b5 : decide ((M : Int) < (E : Int)) = true := decide_eq_true (by omega)
              have b6 : decide ((E : Int) < (b : Int)) = true := decide_eq_true (by omega)
              have b7 : (M : Int) < (E : Int) := by omega
              have b8 : (E : Int) < (b : Int) := by omega
              go_wp2_with fail
              have hc := ih M E b e7 w7 (by omega) r2.1 r2.2 (by have := P7.1; omega) (by have := P7.1; omega) S7 soo.2.1 soo.2.2.1 lo.2
              rw [show e7.size = d.size from P7.1] at hc
              refine hc.mono ?_
              rintro _ w9 ⟨rfl, e9, S9, P9, so9⟩
              go_wp2
              go_end0
              refine ⟨rfl, e9, S9, permIn_trans P7 (Go.Sort.permIn_mono _ _ _ _ _ _ (by omega) (Nat.le_refl _) (by have := P7.1; omega) P9), halves (m := M) (fun p q h1 h2 h3 => ?_) so9 (fun p q h1 h2 h3 h4 => ?_)⟩
              · rw [P9.2.1 p (.inl (by omega)), P9.2.1 q (.inl (by omega))]
                exact soo.1 p q h1 h2 h3
              · rw [P9.2.1 p (.inl (by omega))]
                exact Go.Sort.permIn_all e7 e9 M b (fun y => R.lt y e7[p]! = false) (by have := P7.1; omega) P9 (fun j h5 h6 => soo.2.2.2 p j h1 h2 h5 h6) q h3 h4
            · have b56 : (decide ((M : Int) < (E : Int)) && decide ((E : Int) < (b : Int))) = false := by
                rw [← Bool.not_eq_true, Bool.and_eq_true, decide_eq_true_eq, decide_eq_true_eq]
                omega
              have hx : SortedIn R.lt M b e7 := by
                by_cases q : M < E
                · rw [show b = E by omega]; exact soo.2.1
                · rw [show M = E by omega]; exact soo.2.2.1
              by_cases q5 : (M : Int) < (E : Int)
              · have q6 : ¬ (E : Int) < (b : Int) := by omega
                go_wp2
                all_goals go_end0
                all_goals exact ⟨rfl, e7, S7, P7, halves (m := M) soo.1 hx soo.2.2.2⟩
              · go_wp2
                all_goals go_end0
                all_goals exact ⟨rfl, e7, S7, P7, halves (m := M) soo.1 hx soo.2.2.2⟩
      · have soL := cut_rot2 hS ham hmb hs1 hs2 HL.out HC (e := d) (fun k => by
          rw [HM.out, HE.out]
          unfold rot
          by_cases q : s < m
          · rw [if_neg (by omega)]
            split
            · congr 1; omega
            · rfl
          · split
            · congr 1; omega
            · rw [if_neg (by omega)])
        rw [HM.out, HE.out] at soL
        obtain ⟨so, lo⟩ := soL
        have S7 := HH.out.1
        have P7 : PermIn a b d d := permIn_refl
        by_cases q1 : (s : Int) < (m : Int)
        · have q2 : ¬ (m : Int) < (E : Int) := by omega
          go_upto_region 41 with fail
          by_cases r1 : a < s ∧ s < M
          · have b3 : (a : Int) < (s : Int) := by omega
            have b4 : (s : Int) < (M : Int) := by omega
            go_wp2_with fail
            have hc := ih a s M d wr (by omega) r1.1 r1.2 (by have := P7.1; omega) (by have := P7.1; omega) S7 so.1 so.2.1 lo.1
            rw [show d.size = d.size from P7.1] at hc
            refine hc.mono ?_
            rintro _ w8 ⟨rfl, e8, S8, P8, so8⟩
            have PP : PermIn a b d e8 := permIn_trans P7 (Go.Sort.permIn_mono _ _ _ _ _ _ (Nat.le_refl _) (by omega) (by have := P7.1; omega) P8)
            have soo : SortedIn R.lt a M e8 ∧ SortedIn R.lt M E e8 ∧ SortedIn R.lt E b e8 ∧ ∀ i j, a ≤ i → i < M → M ≤ j → j < b → R.lt e8[j]! e8[i]! = false := by
              refine ⟨so8, fun p q h1 h2 h3 => ?_, fun p q h1 h2 h3 => ?_, fun p q h1 h2 h3 h4 => ?_⟩
              · rw [P8.2.1 p (.inr (by omega)), P8.2.1 q (.inr (by omega))]; exact so.2.2.1 p q h1 h2 h3
              · rw [P8.2.1 p (.inr (by omega)), P8.2.1 q (.inr (by omega))]; exact so.2.2.2.1 p q h1 h2 h3
              · rw [P8.2.1 q (.inr (by omega))]
                exact Go.Sort.permIn_all d e8 a M (fun y => R.lt d[q]! y = false) (by have := P7.1; omega) P8 (fun i h5 h6 => so.2.2.2.2 i q h5 h6 h3 h4) p h1 h2
            have lo8 : Lo M E b e8 := fun p q h1 h2 h3 h4 => by rw [P8.2.1 p (.inr (by omega)), P8.2.1 q (.inr (by omega))]; exact lo.2 p q h1 h2 h3 h4
            clear P8 so8
            by_cases r2 : M < E ∧ E < b
            · have b5 : decide ((M : Int) < (E : Int)) = true := decide_eq_true (by omega)
              have b6 : decide ((E : Int) < (b : Int)) = true := decide_eq_true (by omega)
              have b7 : (M : Int) < (E : Int) := by omega
              have b8 : (E : Int) < (b : Int) := by omega
              go_wp2_with fail
              have hc := ih M E b e8 w8 (by omega) r2.1 r2.2 (by have := PP.1; omega) (by have := PP.1; omega) S8 soo.2.1 soo.2.2.1 lo8
              rw [show e8.size = d.size from PP.1] at hc
              refine hc.mono ?_
              rintro _ w9 ⟨rfl, e9, S9, P9, so9⟩
              go_wp2
              go_end0
              refine ⟨rfl, e9, S9, permIn_trans PP (Go.Sort.permIn_mono _ _ _ _ _ _ (by omega) (Nat.le_refl _) (by have := PP.1; omega) P9), halves (m := M) (fun p q h1 h2 h3 => ?_) so9 (fun p q h1 h2 h3 h4 => ?_)⟩
              · rw [P9.2.1 p (.inl (by omega)), P9.2.1 q (.inl (by omega))]
                exact soo.1 p q h1 h2 h3
              · rw [P9.2.1 p (.inl (by omega))]
                exact Go.Sort.permIn_all e8 e9 M b (fun y => R.lt y e8[p]! = false) (by have := PP.1; omega) P9 (fun j h5 h6 => soo.2.2.2 p j h1 h2 h5 h6) q h3 h4
            · have b56 : (decide ((M : Int) < (E : Int)) && decide ((E : Int) < (b : Int))) = false := by
                rw [← Bool.not_eq_true, Bool.and_eq_true, decide_eq_true_eq, decide_eq_true_eq]
                omega
              have hx : SortedIn R.lt M b e8 := by
                by_cases q : M < E
                · rw [show b = E by omega]; exact soo.2.1
                · rw [show M = E by omega]; exact soo.2.2.1
              by_cases q5 : (M : Int) < (E : Int)
              · have q6 : ¬ (E : Int) < (b : Int) := by omega
                go_wp2
                all_goals go_end0
                all_goals exact ⟨rfl, e8, S8, PP, halves (m := M) soo.1 hx soo.2.2.2⟩
              · go_wp2
                all_goals go_end0
                all_goals exact ⟨rfl, e8, S8, PP, halves (m := M) soo.1 hx soo.2.2.2⟩
          · have soo : SortedIn R.lt a M d ∧ SortedIn R.lt M E d ∧ SortedIn R.lt E b d ∧ ∀ i j, a ≤ i → i < M → M ≤ j → j < b → R.lt d[j]! d[i]! = false := by
              refine ⟨?_, so.2.2.1, so.2.2.2.1, so.2.2.2.2⟩
              by_cases q : a < s
              · rw [show M = s by omega]; exact so.1
              · rw [show a = s by omega]; exact so.2.1
            by_cases q3 : (a : Int) < (s : Int)
            · have q4 : ¬ (s : Int) < (M : Int) := by omega
              go_upto_region 43 with fail
              by_cases r2 : M < E ∧ E < b
              · have b5 : decide ((M : Int) < (E : Int)) = true := decide_eq_true (by omega)
                have b6 : decide ((E : Int) < (b : Int)) = true := decide_eq_true (by omega)
                have b7 : (M : Int) < (E : Int) := by omega
                have b8 : (E : Int) < (b : Int) := by omega
                go_wp2_with fail
                have hc := ih M E b d wr (by omega) r2.1 r2.2 (by have := P7.1; omega) (by have := P7.1; omega) S7 soo.2.1 soo.2.2.1 lo.2
                rw [show d.size = d.size from P7.1] at hc
                refine hc.mono ?_
                rintro _ w9 ⟨rfl, e9, S9, P9, so9⟩
                go_wp2
                go_end0
                refine ⟨rfl, e9, S9, permIn_trans P7 (Go.Sort.permIn_mono _ _ _ _ _ _ (by omega) (Nat.le_refl _) (by have := P7.1; omega) P9), halves (m := M) (fun p q h1 h2 h3 => ?_) so9 (fun p q h1 h2 h3 h4 => ?_)⟩
                · rw [P9.2.1 p (.inl (by omega)), P9.2.1 q (.inl (by omega))]
                  exact soo.1 p q h1 h2 h3
                · rw [P9.2.1 p (.inl (by omega))]
                  exact Go.Sort.permIn_all d e9 M b (fun y => R.lt y d[p]! = false) (by have := P7.1; omega) P9 (fun j h5 h6 => soo.2.2.2 p j h1 h2 h5 h6) q h3 h4
              · have b56 : (decide ((M : Int) < (E : Int)) && decide ((E : Int) < (b : Int))) = false := by
                  rw [← Bool.not_eq_true, Bool.and_eq_true, decide_eq_true_eq, decide_eq_true_eq]
                  omega
                have hx : SortedIn R.lt M b d := by
                  by_cases q : M < E
                  · rw [show b = E by omega]; exact soo.2.1
                  · rw [show M = E by omega]; exact soo.2.2.1
                by_cases q5 : (M : Int) < (E : Int)
                · have q6 : ¬ (E : Int) < (b : Int) := by omega
                  go_wp2
                  all_goals go_end0
                  all_goals exact ⟨rfl, d, S7, P7, halves (m := M) soo.1 hx soo.2.2.2⟩
                · go_wp2
                  all_goals go_end0
                  all_goals exact ⟨rfl, d, S7, P7, halves (m := M) soo.1 hx soo.2.2.2⟩
            · go_upto_region 43 with fail
              by_cases r2 : M < E ∧ E < b
              · have b5 : decide ((M : Int) < (E : Int)) = true := decide_eq_true (by omega)
                have b6 : decide ((E : Int) < (b : Int)) = true := decide_eq_true (by omega)
                have b7 : (M : Int) < (E : Int) := by omega
                have b8 : (E : Int) < (b : Int) := by omega
                go_wp2_with fail
                have hc := ih M E b d wr (by omega) r2.1 r2.2 (by have := P7.1; omega) (by have := P7.1; omega) S7 soo.2.1 soo.2.2.1 lo.2
                rw [show d.size = d.size from P7.1] at hc
                refine hc.mono ?_
                rintro _ w9 ⟨rfl, e9, S9, P9, so9⟩
                go_wp2
                go_end0
                refine ⟨rfl, e9, S9, permIn_trans P7 (Go.Sort.permIn_mono _ _ _ _ _ _ (by omega) (Nat.le_refl _) (by have := P7.1; omega) P9), halves (m := M) (fun p q h1 h2 h3 => ?_) so9 (fun p q h1 h2 h3 h4 => ?_)⟩
                · rw [P9.2.1 p (.inl (by omega)), P9.2.1 q (.inl (by omega))]
                  exact soo.1 p q h1 h2 h3
                · rw [P9.2.1 p (.inl (by omega))]
                  exact Go.Sort.permIn_all d e9 M b (fun y => R.lt y d[p]! = false) (by have := P7.1; omega) P9 (fun j h5 h6 => soo.2.2.2 p j h1 h2 h5 h6) q h3 h4
              · have b56 : (decide ((M : Int) < (E : Int)) && decide ((E : Int) < (b : Int))) = false := by
                  rw [← Bool.not_eq_true, Bool.and_eq_true, decide_eq_true_eq, decide_eq_true_eq]
                  omega
                have hx : SortedIn R.lt M b d := by
                  by_cases q : M < E
                  · rw [show b = E by omega]; exact soo.2.1
                  · rw [show M = E by omega]; exact soo.2.2.1
                by_cases q5 : (M : Int) < (E : Int)
                · have q6 : ¬ (E : Int) < (b : Int) := by omega
                  go_wp2
                  all_goals go_end0
                  all_goals exact ⟨rfl, d, S7, P7, halves (m := M) soo.1 hx soo.2.2.2⟩
                · go_wp2
                  all_goals go_end0
                  all_goals exact ⟨rfl, d, S7, P7, halves (m := M) soo.1 hx soo.2.2.2⟩
        · go_upto_region 41 with fail
          by_cases r1 : a < s ∧ s < M
          · have b3 : (a : Int) < (s : Int) := by omega
            have b4 : (s : Int) < (M : Int) := by omega
            go_wp2_with fail
            have hc := ih a s M d wr (by omega) r1.1 r1.2 (by have := P7.1; omega) (by have := P7.1; omega) S7 so.1 so.2.1 lo.1
            rw [show d.size = d.size from P7.1] at hc
            refine hc.mono ?_
            rintro _ w8 ⟨rfl, e8, S8, P8, so8⟩
            have PP : PermIn a b d e8 := permIn_trans P7 (Go.Sort.permIn_mono _ _ _ _ _ _ (Nat.le_refl _) (by omega) (by have := P7.1; omega) P8)
            have soo : SortedIn R.lt a M e8 ∧ SortedIn R.lt M E e8 ∧ SortedIn R.lt E b e8 ∧ ∀ i j, a ≤ i → i < M → M ≤ j → j < b → R.lt e8[j]! e8[i]! = false := by
              refine ⟨so8, fun p q h1 h2 h3 => ?_, fun p q h1 h2 h3 => ?_, fun p q h1 h2 h3 h4 => ?_⟩
              · rw [P8.2.1 p (.inr (by omega)), P8.2.1 q (.inr (by omega))]; exact so.2.2.1 p q h1 h2 h3
              · rw [P8.2.1 p (.inr (by omega)), P8.2.1 q (.inr (by omega))]; exact so.2.2.2.1 p q h1 h2 h3
              · rw [P8.2.1 q (.inr (by omega))]
                exact Go.Sort.permIn_all d e8 a M (fun y => R.lt d[q]! y = false) (by have := P7.1; omega) P8 (fun i h5 h6 => so.2.2.2.2 i q h5 h6 h3 h4) p h1 h2
            have lo8 : Lo M E b e8 := fun p q h1 h2 h3 h4 => by rw [P8.2.1 p (.inr (by omega)), P8.2.1 q (.inr (by omega))]; exact lo.2 p q h1 h2 h3 h4
            clear P8 so8
            by_cases r2 : M < E ∧ E < b
            · have b5 : decide ((M : Int) < (E : Int)) = true := decide_eq_true (by omega)
              have b6 : decide ((E : Int) < (b : Int)) = true := decide_eq_true (by omega)
              have b7 : (M : Int) < (E : Int) := by omega
              have b8 : (E : Int) < (b : Int) := by omega
              go_wp2_with fail
              have hc := ih M E b e8 w8 (by omega) r2.1 r2.2 (by have := PP.1; omega) (by have := PP.1; omega) S8 soo.2.1 soo.2.2.1 lo8
              rw [show e8.size = d.size from PP.1] at hc
              refine hc.mono ?_
              rintro _ w9 ⟨rfl, e9, S9, P9, so9⟩
              go_wp2
              go_end0
              refine ⟨rfl, e9, S9, permIn_trans PP (Go.Sort.permIn_mono _ _ _ _ _ _ (by omega) (Nat.le_refl _) (by have := PP.1; omega) P9), halves (m := M) (fun p q h1 h2 h3 => ?_) so9 (fun p q h1 h2 h3 h4 => ?_)⟩
              · rw [P9.2.1 p (.inl (by omega)), P9.2.1 q (.inl (by omega))]
                exact soo.1 p q h1 h2 h3
              · rw [P9.2.1 p (.inl (by omega))]
                exact Go.Sort.permIn_all e8 e9 M b (fun y => R.lt y e8[p]! = false) (by have := PP.1; omega) P9 (fun j h5 h6 => soo.2.2.2 p j h1 h2 h5 h6) q h3 h4
            · have b56 : (decide ((M : Int) < (E : Int)) && decide ((E : Int) < (b : Int))) = false := by
                rw [← Bool.not_eq_true, Bool.and_eq_true, decide_eq_true_eq, decide_eq_true_eq]
                omega
              have hx : SortedIn R.lt M b e8 := by
                by_cases q : M < E
                · rw [show b = E by omega]; exact soo.2.1
                · rw [show M = E by omega]; exact soo.2.2.1
              by_cases q5 : (M : Int) < (E : Int)
              · have q6 : ¬ (E : Int) < (b : Int) := by omega
                go_wp2
                all_goals go_end0
                all_goals exact ⟨rfl, e8, S8, PP, halves (m := M) soo.1 hx soo.2.2.2⟩
              · go_wp2
                all_goals go_end0
                all_goals exact ⟨rfl, e8, S8, PP, halves (m := M) soo.1 hx soo.2.2.2⟩
          · have soo : SortedIn R.lt a M d ∧ SortedIn R.lt M E d ∧ SortedIn R.lt E b d ∧ ∀ i j, a ≤ i → i < M → M ≤ j → j < b → R.lt d[j]! d[i]! = false := by
              refine ⟨?_, so.2.2.1, so.2.2.2.1, so.2.2.2.2⟩
              by_cases q : a < s
              · rw [show M = s by omega]; exact so.1
              · rw [show a = s by omega]; exact so.2.1
            by_cases q3 : (a : Int) < (s : Int)
            · have q4 : ¬ (s : Int) < (M : Int) := by omega
              go_upto_region 43 with fail
              by_cases r2 : M < E ∧ E < b
              · have b5 : decide ((M : Int) < (E : Int)) = true := decide_eq_true (by omega)
                have b6 : decide ((E : Int) < (b : Int)) = true := decide_eq_true (by omega)
                have b7 : (M : Int) < (E : Int) := by omega
                have b8 : (E : Int) < (b : Int) := by omega
                go_wp2_with fail
                have hc := ih M E b d wr (by omega) r2.1 r2.2 (by have := P7.1; omega) (by have := P7.1; omega) S7 soo.2.1 soo.2.2.1 lo.2
                rw [show d.size = d.size from P7.1] at hc
                refine hc.mono ?_
                rintro _ w9 ⟨rfl, e9, S9, P9, so9⟩
                go_wp2
                go_end0
                refine ⟨rfl, e9, S9, permIn_trans P7 (Go.Sort.permIn_mono _ _ _ _ _ _ (by omega) (Nat.le_refl _) (by have := P7.1; omega) P9), halves (m := M) (fun p q h1 h2 h3 => ?_) so9 (fun p q h1 h2 h3 h4 => ?_)⟩
                · rw [P9.2.1 p (.inl (by omega)), P9.2.1 q (.inl (by omega))]
                  exact soo.1 p q h1 h2 h3
                · rw [P9.2.1 p (.inl (by omega))]
                  exact Go.Sort.permIn_all d e9 M b (fun y => R.lt y d[p]! = false) (by have := P7.1; omega) P9 (fun j h5 h6 => soo.2.2.2 p j h1 h2 h5 h6) q h3 h4
              · have b56 : (decide ((M : Int) < (E : Int)) && decide ((E : Int) < (b : Int))) = false := by
                  rw [← Bool.not_eq_true, Bool.and_eq_true, decide_eq_true_eq, decide_eq_true_eq]
                  omega
                have hx : SortedIn R.lt M b d := by
                  by_cases q : M < E
                  · rw [show b = E by omega]; exact soo.2.1
                  · rw [show M = E by omega]; exact soo.2.2.1
                by_cases q5 : (M : Int) < (E : Int)
                · have q6 : ¬ (E : Int) < (b : Int) := by omega
                  go_wp2
                  all_goals go_end0
                  all_goals exact ⟨rfl, d, S7, P7, halves (m := M) soo.1 hx soo.2.2.2⟩
                · go_wp2
                  all_goals go_end0
                  all_goals exact ⟨rfl, d, S7, P7, halves (m := M) soo.1 hx soo.2.2.2⟩
            · go_upto_region 43 with fail
              by_cases r2 : M < E ∧ E < b
              · have b5 : decide ((M : Int) < (E : Int)) = true := decide_eq_true (by omega)
                have b6 : decide ((E : Int) < (b : Int)) = true := decide_eq_true (by omega)
                have b7 : (M : Int) < (E : Int) := by omega
                have b8 : (E : Int) < (b : Int) := by omega
                go_wp2_with fail
                have hc := ih M E b d wr (by omega) r2.1 r2.2 (by have := P7.1; omega) (by have := P7.1; omega) S7 soo.2.1 soo.2.2.1 lo.2
                rw [show d.size = d.size from P7.1] at hc
                refine hc.mono ?_
                rintro _ w9 ⟨rfl, e9, S9, P9, so9⟩
                go_wp2
                go_end0
                refine ⟨rfl, e9, S9, permIn_trans P7 (Go.Sort.permIn_mono _ _ _ _ _ _ (by omega) (Nat.le_refl _) (by have := P7.1; omega) P9), halves (m := M) (fun p q h1 h2 h3 => ?_) so9 (fun p q h1 h2 h3 h4 => ?_)⟩
                · rw [P9.2.1 p (.inl (by omega)), P9.2.1 q (.inl (by omega))]
                  exact soo.1 p q h1 h2 h3
                · rw [P9.2.1 p (.inl (by omega))]
                  exact Go.Sort.permIn_all d e9 M b (fun y => R.lt y d[p]! = false) (by have := P7.1; omega) P9 (fun j h5 h6 => soo.2.2.2 p j h1 h2 h5 h6) q h3 h4
              · have b56 : (decide ((M : Int) < (E : Int)) && decide ((E : Int) < (b : Int))) = false := by
                  rw [← Bool.not_eq_true, Bool.and_eq_true, decide_eq_true_eq, decide_eq_true_eq]
                  omega
                have hx : SortedIn R.lt M b d := by
                  by_cases q : M < E
                  · rw [show b = E by omega]; exact soo.2.1
                  · rw [show M = E by omega]; exact soo.2.2.1
                by_cases q5 : (M : Int) < (E : Int)
                · have q6 : ¬ (E : Int) < (b : Int) := by omega
                  go_wp2
                  all_goals go_end0
                  all_goals exact ⟨rfl, d, S7, P7, halves (m := M) soo.1 hx soo.2.2.2⟩
                · go_wp2
                  all_goals go_end0
                  all_goals exact ⟨rfl, d, S7, P7, halves (m := M) soo.1 hx soo.2.2.2⟩

end Go.Proofs.Ytflbeccfdbjbhaa
