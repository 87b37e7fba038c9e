/- The rows of the project: Right. -/
import Derived.Test.YtkeekefekajfnaaValA
import Derived.Test.YtkeekefekajfnaaRowMem
namespace Go.Proofs.Ytkeekefekajfnaa
open Go.RowKit

set_option maxHeartbeats 1000000 in
theorem allRight_any (p : Option Addr) (len cap : Nat) (x : Nat → Val) (w : World) (hl : len ≤ 9223372036854775807) (hR : RowP w p len x) :
    Calls Try.prog 51 #[.slice p len cap] w fun e w' => e = .returned (.bool (allRight len x)) ∧ Below w.heap.size w w' := by
  go_enter Try.func51, Try.ntmps51
  go_wp2
  go_loopw [7] (fun i wr => ∃ k : Nat, k ≤ len ∧ i = .int .i64 k ∧ allRight k x = true ∧ Below w.heap.size w wr) (fun i _ => len - (intOf i).toNat)
  case atStart => exact ⟨0, Nat.zero_le _, rfl, rfl, ext_refl _⟩
  case round =>
    obtain ⟨k, hk, rfl, hr, hE⟩ := hrel
    have HA := Lib.hid hr
    clear hr
    by_cases hlt : k < len
    · obtain ⟨b, off, rfl, hR'⟩ := (hR.ext hE).one hlt
      have q0 := hR'.c0 k hlt
      have q1 := hR'.c1 k hlt
      have q2 := hR'.c2 k hlt
      cases hx : (x k).right
      · have HX := Lib.hid hx
        clear hx
        go_wp2_with (first | (go_at_call 58; go_must (refine (right_any (x k) _).mono ?_; rintro e w1 ⟨rfl, hb⟩; rw [HX.out])))
        go_ret
        refine ⟨by rw [allRight_no hlt HX.out]; rfl, ext_trans hE ?_⟩
        (repeat (first | exact ext_refl _ | assumption | (refine ext_alloc ?_ _) | (refine ext_drewN ?_ _) | refine ext_drew ?_ | (refine ext_set (by first | (simp; done) | (simp; omega)) _ ?_) | (refine ext_trans ?_ (by assumption))))
      · have HX := Lib.hid hx
        clear hx
        go_wp2_with (first | (go_at_call 58; go_must (refine (right_any (x k) _).mono ?_; rintro e w1 ⟨rfl, hb⟩; rw [HX.out])))
        go_roundw
        case rel => exact ⟨k + 1, by omega, by go_num, by rw [allRight, HA.out, HX.out]; rfl, ext_trans hE (by (repeat (first | exact ext_refl _ | assumption | (refine ext_alloc ?_ _) | (refine ext_drewN ?_ _) | refine ext_drew ?_ | (refine ext_set (by first | (simp; done) | (simp; omega)) _ ?_) | (refine ext_trans ?_ (by assumption)))))⟩
        case measure => simp [intOf]; omega
    · have hkl : k = len := by omega
      subst hkl
      go_wp2
      go_ret
      exact ⟨by rw [HA.out]; rfl, hE⟩

set_option maxHeartbeats 1000000 in
theorem rowRight_any (p : Option Addr) (len cap : Nat) (x : Nat → Val) (w : World) (hl : len ≤ 9223372036854775807) (hR : RowP w p len x) :
    Calls Try.prog 42 #[.slice p len cap] w fun e w' => e = .returned (.bool (allRight len x && decide (len ≤ 100))) ∧ Below w.heap.size w w' := by
  by_cases h : len ≤ 100
  · go_enter Try.func42, Try.ntmps42
    go_wp2_with (first | (go_at_call 51; go_must (refine (allRight_any p len cap x _ hl hR).mono ?_; rintro e w1 ⟨rfl, hb⟩)))
    go_ret
    exact ⟨by rw [decide_eq_true h, Bool.and_true]; rfl, hb⟩
  · go_enter Try.func42, Try.ntmps42
    go_wp2
    go_ret
    exact ⟨rfl, ext_refl _⟩

end Go.Proofs.Ytkeekefekajfnaa
