/- The merge of two sorted ranges in place: one element on a side. -/
import Derived.Test.YtflbeccfdbjbhaaIsP
namespace Go.Proofs.Ytflbeccfdbjbhaa
open Go.RowKit
open Go.Sort (swp PermIn SortedIn SWO Ins)

set_option maxRecDepth 100000 in
set_option maxHeartbeats 4000000 in
theorem sym_left (R : Rws) (W0 : World) (g cap a m b : Nat) (d : Array Nat) (w : World) (hS : SWO R.lt) (hok : R.ok W0) (S : SW R W0 g d w) (hm : m = a + 1) (hab : a + 1 < b) (hb : b ≤ d.size) (hsz : d.size ≤ 1073741824) (hs : SortedIn R.lt (a + 1) b d) (hL : Lo a m b d) :
    Calls Try.prog 32 #[.slice (some ⟨g, 0, none⟩) d.size cap, .int .i64 a, .int .i64 m, .int .i64 b, .func (.func 26) #[] #[R.c1, R.c2]] w fun e w' => e = .returned (.tuple #[]) ∧ ∃ d', SW R W0 g d' w' ∧ PermIn a b d d' ∧ SortedIn R.lt a b d' := by
  have y1 : (m : Int) - (a : Int) = 1 := by omega
  have hm1 : m ≤ a + 1 := by omega
  have hm2 : a + 1 ≤ m := by omega
  have HL := Lib.hid hL
  clear hm hL
  go_enter Try.func32, Try.ntmps32
  go_wp2_with fail
  go_loopw [10, 11] (fun vi vj wr => ∃ (i j : Nat), vi = .int .i64 i ∧ vj = .int .i64 j ∧ a + 1 ≤ i ∧ i ≤ j ∧ j ≤ b ∧ Hid (SW R W0 g d wr ∧ (∀ h, a + 1 ≤ h → h < i → R.lt d[h]! d[a]! = true) ∧ ∀ h, j ≤ h → h < b → R.lt d[h]! d[a]! = false)) (fun vi vj _ => (intOf vj).toNat - (intOf vi).toNat)
  case atStart => exact ⟨m, b, rfl, rfl, by omega, by omega, by omega, ⟨S, fun h h1 h2 => by omega, fun h h1 h2 => by omega⟩⟩
  case round =>
    clear S y1
    obtain ⟨i, j, rfl, rfl, hi1, hij, hjb, HH⟩ := hrel
    by_cases hlt : i < j
    · obtain ⟨h, hh⟩ : ∃ h, h = (i + j) / 2 := ⟨_, rfl⟩
      have hh1 : i ≤ h ∧ h < j := by omega
      have hz : ((i : Int) + (j : Int)) / 2 = (h : Int) := by omega
      have Sj := HH.out.1
      have hl := Sj.lt
      have q0 := fun (z : After wr) => (z.cell g h hl).trans (Sj.cell h (by omega))
      have q1 := fun (z : After wr) => (z.cell g a hl).trans (Sj.cell a (by omega))
      have hcm := Lib.hid (fun W' hb => Sj.cmp hok d[h]! d[a]! (Sj.num h (by omega)) (Sj.num a (by omega)) W' hb)
      have is := After.some wr
      have z1 : (h : Int) < (d.size : Int) := by omega
      have z2 : (a : Int) < (d.size : Int) := by omega
      have z5 : IntKind.i64.wrap (h : Int) = (h : Int) := by rw [IntKind.wrap_i64]; omega
      have z6 : IntKind.i64.wrap (a : Int) = (a : Int) := by rw [IntKind.wrap_i64]; omega
      clear Sj hh
      cases hv : R.lt d[h]! d[a]! with
      | true =>
        have hd : decide (R.cf d[h]! d[a]! < 0) = true := R.yes hv (HL.out a h (by omega) (by omega) (by omega) (by omega))
        go_wp2_with fail
        refine wp_region_after (by kernel_rfl) (by kernel_rfl) ?_
        repeat (quiet_step ((first | (go_at_call 26; exact calls_after (hcm.out _ (After.below _))))))
        refine wpQuiet_nil ?_
        intro _ hw
        obtain ⟨⟨W1, hb1⟩, rfl⟩ := hw
        clear q0 q1 is hcm
        have S1 := HH.out.1.ext hb1
        go_wp2
        go_roundw
        case rel =>
          refine ⟨h + 1, j, by go_num, rfl, by omega, by omega, by omega, ⟨S1, fun k h1 h2 => ?_, HH.out.2.2⟩⟩
          by_cases e : k = h
          · subst e; exact hv
          · cases hq : R.lt d[k]! d[a]! with
            | true => rfl
            | false =>
              have := hS.ntrans _ _ _ (hs k h (by omega) (by omega) (by omega)) hq
              rw [hv] at this
              cases this
        case measure => simp [intOf]; omega
      | false =>
        have hd : decide (R.cf d[h]! d[a]! < 0) = false := R.yes hv (HL.out a h (by omega) (by omega) (by omega) (by omega))
        go_wp2_with fail
        refine wp_region_after (by kernel_rfl) (by kernel_rfl) ?_
        repeat (quiet_step ((first | (go_at_call 26; exact calls_after (hcm.out _ (After.below _))))))
        refine wpQuiet_nil ?_
        intro _ hw
        obtain ⟨⟨W1, hb1⟩, rfl⟩ := hw
        clear q0 q1 is hcm
        have S1 := HH.out.1.ext hb1
        go_wp2
        go_roundw
        case rel =>
          refine ⟨i, h, rfl, rfl, by omega, by omega, by omega, ⟨S1, HH.out.2.1, fun k h1 h2 => ?_⟩⟩
          by_cases e : k = h
          · subst e; exact hv
          · exact hS.ntrans _ _ _ (hs h k (by omega) (by omega) (by omega)) hv
        case measure => simp [intOf]; omega
    · have hij2 : i = j := by omega
      subst hij2
      have y2 : (i : Int) - 1 = ((i - 1 : Nat) : Int) := by omega
      go_wp2_with fail
      go_loopw [13] (fun vk wq => ∃ (k : Nat) (e : Array Nat), vk = .int .i64 k ∧ a ≤ k ∧ k ≤ i - 1 ∧ Hid (SW R W0 g e wq ∧ PermIn a b d e ∧ ∀ h, e[h]! = if a ≤ h ∧ h < k then d[h + 1]! else if h = k then d[a]! else d[h]!)) (fun vk _ => i - (intOf vk).toNat)
      case atStart => exact ⟨a, d, rfl, by omega, by omega, ⟨HH.out.1, permIn_refl, fun h => by rw [if_neg (by omega)]; split <;> simp_all⟩⟩
      case round =>
        obtain ⟨k, e, rfl, hk1, hk2, HK⟩ := hrel
        have hse : e.size = d.size := HK.out.2.1.1
        by_cases hki : k < i - 1
        · have S1 := HK.out.1
          have SS := Lib.hid (S1.swap k (k + 1) (by omega) (by omega))
          have c0 := S1.cell k (by omega)
          have c1 := S1.cell (k + 1) (by omega)
          have f0 := S1.frozen
          have z1 : (k : Int) < (d.size : Int) := by omega
          have z2 : (k : Int) + 1 < (d.size : Int) := by omega
          have z3 : (0 : Int) ≤ (k : Int) + 1 := by omega
          have z4 : ((k : Int) + 1).toNat = k + 1 := by omega
          have z5 : IntKind.i64.wrap (k : Int) = (k : Int) := by rw [IntKind.wrap_i64]; omega
          have z6 : IntKind.i64.wrap ((k : Int) + 1) = (k : Int) + 1 := by rw [IntKind.wrap_i64]; omega
          have z7 : (k : Int) < ((i - 1 : Nat) : Int) := by omega
          clear S1
          go_wp2_with fail
          go_region
          clear c0 c1 f0
          go_wp2
          go_roundw
          case rel =>
            refine ⟨k + 1, swp e k (k + 1), by go_num, by omega, by omega, ⟨SS.out.drew, permIn_trans HK.out.2.1 (permIn_swp (by omega) (by omega) (by omega) (by omega) (by omega)), fun h => ?_⟩⟩
            rw [Go.Sort.swp_get e (by omega) (by omega), HK.out.2.2, HK.out.2.2, HK.out.2.2]
            repeat' split
            all_goals first | rfl | (congr 1; omega) | omega
          case measure => simp [intOf]; omega
        · have hki2 : k = i - 1 := by omega
          have z7 : ¬ (k : Int) < ((i - 1 : Nat) : Int) := by omega
          go_wp2
          refine bodyPost_ret (results_none (by rfl) _ _ _) rfl ?_
          refine ⟨rfl, e, HK.out.1, HK.out.2.1, ins_left (i := i) hS (by omega) hjb hs HH.out.2.1 HH.out.2.2 (fun h => ?_)⟩
          rw [HK.out.2.2, hki2]

set_option maxRecDepth 100000 in
set_option maxHeartbeats 4000000 in
theorem sym_right (R : Rws) (W0 : World) (g cap a m b : Nat) (d : Array Nat) (w : World) (hS : SWO R.lt) (hok : R.ok W0) (S : SW R W0 g d w) (hm : b = m + 1) (hab : a + 1 < m) (hb : b ≤ d.size) (hsz : d.size ≤ 1073741824) (hs : SortedIn R.lt a m d) (hL : Lo a m b d) :
    Calls Try.prog 32 #[.slice (some ⟨g, 0, none⟩) d.size cap, .int .i64 a, .int .i64 m, .int .i64 b, .func (.func 26) #[] #[R.c1, R.c2]] w fun e w' => e = .returned (.tuple #[]) ∧ ∃ d', SW R W0 g d' w' ∧ PermIn a b d d' ∧ SortedIn R.lt a b d' := by
  have y1 : (((m : Int) - (a : Int)) == 1) = false := by rw [beq_eq_false_iff_ne]; omega
  have y2 : (b : Int) - (m : Int) = 1 := by omega
  have hm1 : b ≤ m + 1 := by omega
  have hm2 : m + 1 ≤ b := by omega
  have HL := Lib.hid hL
  clear hm hL
  go_enter Try.func32, Try.ntmps32
  go_wp2_with fail
  go_loopw [14, 15] (fun vi vj wr => ∃ (i j : Nat), vi = .int .i64 i ∧ vj = .int .i64 j ∧ a ≤ i ∧ i ≤ j ∧ j ≤ m ∧ Hid (SW R W0 g d wr ∧ (∀ h, a ≤ h → h < i → R.lt d[m]! d[h]! = false) ∧ ∀ h, j ≤ h → h < m → R.lt d[m]! d[h]! = true)) (fun vi vj _ => (intOf vj).toNat - (intOf vi).toNat)
  case atStart => exact ⟨a, m, rfl, rfl, by omega, by omega, by omega, ⟨S, fun h h1 h2 => by omega, fun h h1 h2 => by omega⟩⟩
  case round =>
    clear S y1 y2
    obtain ⟨i, j, rfl, rfl, hi1, hij, hjb, HH⟩ := hrel
    by_cases hlt : i < j
    · obtain ⟨h, hh⟩ : ∃ h, h = (i + j) / 2 := ⟨_, rfl⟩
      have hh1 : i ≤ h ∧ h < j := by omega
      have hz : ((i : Int) + (j : Int)) / 2 = (h : Int) := by omega
      have Sj := HH.out.1
      have hl := Sj.lt
      have q0 := fun (z : After wr) => (z.cell g m hl).trans (Sj.cell m (by omega))
      have q1 := fun (z : After wr) => (z.cell g h hl).trans (Sj.cell h (by omega))
      have hcm := Lib.hid (fun W' hb => Sj.cmp hok d[m]! d[h]! (Sj.num m (by omega)) (Sj.num h (by omega)) W' hb)
      have is := After.some wr
      have z1 : (m : Int) < (d.size : Int) := by omega
      have z2 : (h : Int) < (d.size : Int) := by omega
      have z5 : IntKind.i64.wrap (m : Int) = (m : Int) := by rw [IntKind.wrap_i64]; omega
      have z6 : IntKind.i64.wrap (h : Int) = (h : Int) := by rw [IntKind.wrap_i64]; omega
      clear Sj hh
      cases hv : R.lt d[m]! d[h]! with
      | true =>
        have hd : decide (R.cf d[m]! d[h]! < 0) = true := R.yes hv (HL.out h m (by omega) (by omega) (by omega) (by omega))
        go_wp2_with fail
        refine wp_region_after (by kernel_rfl) (by kernel_rfl) ?_
        repeat (quiet_step ((first | (go_at_call 26; exact calls_after (hcm.out _ (After.below _))))))
        refine wpQuiet_nil ?_
        intro _ hw
        obtain ⟨⟨W1, hb1⟩, rfl⟩ := hw
        clear q0 q1 is hcm
        have S1 := HH.out.1.ext hb1
        go_wp2
        go_roundw
        case rel =>
          refine ⟨i, h, rfl, rfl, by omega, by omega, by omega, ⟨S1, HH.out.2.1, fun k h1 h2 => ?_⟩⟩
          by_cases e : k = h
          · subst e; exact hv
          · cases hq : R.lt d[m]! d[k]! with
            | true => rfl
            | false =>
              have := hS.ntrans _ _ _ hq (hs h k (by omega) (by omega) (by omega))
              rw [hv] at this
              cases this
        case measure => simp [intOf]; omega
      | false =>
        have hd : decide (R.cf d[m]! d[h]! < 0) = false := R.yes hv (HL.out h m (by omega) (by omega) (by omega) (by omega))
        go_wp2_with fail
        refine wp_region_after (by kernel_rfl) (by kernel_rfl) ?_
        repeat (quiet_step ((first | (go_at_call 26; exact calls_after (hcm.out _ (After.below _))))))
        refine wpQuiet_nil ?_
        intro _ hw
        obtain ⟨⟨W1, hb1⟩, rfl⟩ := hw
        clear q0 q1 is hcm
        have S1 := HH.out.1.ext hb1
        go_wp2
        go_roundw
        case rel =>
          refine ⟨h + 1, j, by go_num, rfl, by omega, by omega, by omega, ⟨S1, fun k h1 h2 => ?_, HH.out.2.2⟩⟩
          by_cases e : k = h
          · subst e; exact hv
          · exact hS.ntrans _ _ _ hv (hs k h (by omega) (by omega) (by omega))
        case measure => simp [intOf]; omega
    · have hij2 : i = j := by omega
      subst hij2
      go_wp2_with fail
      go_loopw [17] (fun vk wq => ∃ (k : Nat) (e : Array Nat), vk = .int .i64 k ∧ i ≤ k ∧ k ≤ m ∧ Hid (SW R W0 g e wq ∧ PermIn a b d e ∧ ∀ h, e[h]! = if k < h ∧ h ≤ m then d[h - 1]! else if h = k then d[m]! else d[h]!)) (fun vk _ => (intOf vk).toNat)
      case atStart => exact ⟨m, d, rfl, by omega, by omega, ⟨HH.out.1, permIn_refl, fun h => by rw [if_neg (by omega)]; split <;> simp_all⟩⟩
      case round =>
        obtain ⟨k, e, rfl, hk1, hk2, HK⟩ := hrel
        have hse : e.size = d.size := HK.out.2.1.1
        by_cases hki : i < k
        · obtain ⟨kp, rfl⟩ : ∃ kp, k = kp + 1 := ⟨k - 1, by omega⟩
          have S1 := HK.out.1
          have SS := Lib.hid (S1.swap (kp + 1) kp (by omega) (by omega))
          have c0 := S1.cell (kp + 1) (by omega)
          have c1 := S1.cell kp (by omega)
          have f0 := S1.frozen
          have z1 : (kp : Int) < (d.size : Int) := by omega
          have z2 : (kp : Int) + 1 < (d.size : Int) := by omega
          have z3 : (0 : Int) ≤ (kp : Int) + 1 := by omega
          have z4 : ((kp : Int) + 1).toNat = kp + 1 := by omega
          have z5 : IntKind.i64.wrap (kp : Int) = (kp : Int) := by rw [IntKind.wrap_i64]; omega
          have z6 : IntKind.i64.wrap ((kp : Int) + 1) = (kp : Int) + 1 := by rw [IntKind.wrap_i64]; omega
          have z7 : (i : Int) < (kp : Int) + 1 := by omega
          clear S1
          go_wp2_with fail
          go_region
          clear c0 c1 f0
          go_wp2
          go_roundw
          case rel =>
            refine ⟨kp, swp e (kp + 1) kp, rfl, by omega, by omega, ⟨SS.out.drew, permIn_trans HK.out.2.1 (permIn_swp (by omega) (by omega) (by omega) (by omega) (by omega)), fun h => ?_⟩⟩
            rw [Go.Sort.swp_get e (by omega) (by omega), HK.out.2.2, HK.out.2.2, HK.out.2.2]
            repeat' split
            all_goals first | rfl | (congr 1; omega) | omega
          case measure => simp [intOf]
        · have hki2 : k = i := by omega
          have z7 : ¬ (i : Int) < (k : Int) := by omega
          go_wp2
          refine bodyPost_ret (results_none (by rfl) _ _ _) rfl ?_
          refine ⟨rfl, e, HK.out.1, HK.out.2.1, ?_⟩
          rw [show b = m + 1 by omega]
          refine ins_right (i := i) hS hi1 hjb hs HH.out.2.1 HH.out.2.2 (fun h => ?_)
          rw [HK.out.2.2, hki2]

end Go.Proofs.Ytflbeccfdbjbhaa
