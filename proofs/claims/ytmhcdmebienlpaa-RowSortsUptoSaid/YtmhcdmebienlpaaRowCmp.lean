/- The rows of the project: Compare. -/
import Derived.Test.YtmhcdmebienlpaaValD
import Derived.Test.YtmhcdmebienlpaaRowMem
namespace Go.Proofs.Ytmhcdmebienlpaa
open Go.RowKit

set_option maxHeartbeats 1000000 in
theorem cmpFunc_any (p p' : Option Addr) (len cap len' cap' : Nat) (x y : Nat → Val) (w : World) (hl : len ≤ 9223372036854775807) (hl' : len' ≤ 9223372036854775807) (hR : RowP w p len x) (hR' : RowP w p' len' y) :
    Calls Try.prog 34 #[.slice p len cap, .slice p' len' cap', .func (.func 35) #[] #[]] w fun e w' => e = .returned (.int .i64 (cmpRow len len' x y)) ∧ Below w.heap.size w w' := by
  go_enter Try.func34, Try.ntmps34
  go_wp2
  go_loopw [13] (fun i wr => ∃ k : Nat, k ≤ len ∧ k ≤ len' ∧ i = .int .i64 k ∧ Hid (cmpFrom len len' x y (min len len' - k) k = cmpRow len len' x y) ∧ Below w.heap.size w wr) (fun i _ => len - (intOf i).toNat)
  case atStart => exact ⟨0, Nat.zero_le _, Nat.zero_le _, rfl, rfl, ext_refl _⟩
  case round =>
    obtain ⟨k, hk, hk', rfl, HC, hE⟩ := hrel
    by_cases hlt : k < len
    · obtain ⟨b, off, rfl, S⟩ := (hR.ext hE).one hlt
      have q0 := S.c0 k hlt
      have q1 := S.c1 k hlt
      have q2 := S.c2 k hlt
      have lb := S.lt (by omega)
      by_cases hlt' : k < len'
      · obtain ⟨b', off', rfl, S'⟩ := (hR'.ext hE).one hlt'
        have p0 := S'.c0 k hlt'
        have p1 := S'.c1 k hlt'
        have p2 := S'.c2 k hlt'
        have lb' := S'.lt (by omega)
        obtain ⟨f, hf⟩ : ∃ f, min len len' - k = f + 1 := ⟨min len len' - k - 1, by omega⟩
        have hf' : min len len' - (k + 1) = f := by omega
        have HF := Lib.hid hf
        have HF' := Lib.hid hf'
        clear hf hf' S S'
        cases hc : (x k).cmp (y k) != 0
        · go_wp2_with (first | (go_at_call 35; go_must (refine (compare_any (x k) (y k) _).mono ?_; rintro e w1 ⟨rfl, hb⟩)))
          go_roundw
          case rel =>
            refine ⟨k + 1, by omega, by omega, by go_num, ?_, ext_trans hE (by (repeat (first | exact ext_refl _ | assumption | (refine ext_alloc ?_ _) | (refine ext_drewN ?_ _) | refine ext_drew ?_ | (refine ext_set (by first | (simp; done) | (simp; omega)) _ ?_) | (refine ext_trans ?_ (by assumption)))))⟩
            show _ = _
            rw [HF'.out, ← HC.out, HF.out, cmpFrom, if_neg (by rw [hc]; exact Bool.false_ne_true)]
          case measure => simp [intOf]; omega
        · go_wp2_with (first | (go_at_call 35; go_must (refine (compare_any (x k) (y k) _).mono ?_; rintro e w1 ⟨rfl, hb⟩)))
          go_ret
          refine ⟨?_, ext_trans hE (by (repeat (first | exact ext_refl _ | assumption | (refine ext_alloc ?_ _) | (refine ext_drewN ?_ _) | refine ext_drew ?_ | (refine ext_set (by first | (simp; done) | (simp; omega)) _ ?_) | (refine ext_trans ?_ (by assumption)))))⟩
          rw [← HC.out, HF.out, cmpFrom, if_pos hc]
          rfl
      · have hkl : k = len' := by omega
        have h0 : min len len' - k = 0 := by omega
        rw [h0] at HC
        have HC' := HC.out
        rw [cmpFrom] at HC'
        have HK := Lib.hid HC'
        clear HC HC' h0
        have h1 : ¬ len < len' := by omega
        have h2 : len' < len := by omega
        subst hkl
        go_wp2
        go_ret
        refine ⟨?_, ext_trans hE (by (repeat (first | exact ext_refl _ | assumption | (refine ext_alloc ?_ _) | (refine ext_drewN ?_ _) | refine ext_drew ?_ | (refine ext_set (by first | (simp; done) | (simp; omega)) _ ?_) | (refine ext_trans ?_ (by assumption)))))⟩
        rw [← HK.out, if_neg h1, if_pos h2]
        rfl
    · have h0 : min len len' - k = 0 := by omega
      rw [h0] at HC
      have HC' := HC.out
      rw [cmpFrom] at HC'
      have HK := Lib.hid HC'
      clear HC HC' h0
      have h2 : ¬ len' < len := by omega
      by_cases h1 : len < len'
      · go_wp2
        go_ret
        refine ⟨?_, hE⟩
        rw [← HK.out, if_pos h1]
        rfl
      · go_wp2
        go_ret
        refine ⟨?_, hE⟩
        rw [← HK.out, if_neg h1, if_neg h2]
        rfl

set_option maxHeartbeats 1000000 in
theorem rowCompare_any (p p' : Option Addr) (len cap len' cap' : Nat) (x y : Nat → Val) (w : World) (hl : len ≤ 9223372036854775807) (hl' : len' ≤ 9223372036854775807) (hR : RowP w p len x) (hR' : RowP w p' len' y) :
    Calls Try.prog 22 #[.slice p len cap, .slice p' len' cap'] w fun e w' => e = .returned (.int .i64 (cmpRow len len' x y)) ∧ Below w.heap.size w w' := by
  go_enter Try.func22, Try.ntmps22
  go_wp2_with (first | (go_at_call 34; go_must (refine (cmpFunc_any p p' len cap len' cap' x y _ hl hl' hR hR').mono ?_; rintro e w1 ⟨rfl, hb⟩)))
  go_ret
  exact ⟨rfl, hb⟩

end Go.Proofs.Ytmhcdmebienlpaa
