/- The document's own answers to the chapter of rows: Right. -/
import Derived.Test.YtmhcdmebienlpaaValA
import Derived.Test.YtmhcdmebienlpaaValH
import Derived.Test.YtmhcdmebienlpaaAfter
import Derived.Test.YtmhcdmebienlpaaRowMem
namespace Go.Proofs.Ytmhcdmebienlpaa
open Go.RowKit

set_option maxHeartbeats 1000000 in
theorem rrowRight_any (p : Option Addr) (len cap : Nat) (x : Nat → Val) (w : World) (hl : len ≤ 9223372036854775807) (hR : RowP w p len x) :
    Calls Try.prog 17 #[.slice p len cap] w fun e w' => e = .returned (.bool (allRight len x && decide (len ≤ 100))) ∧ Below w.heap.size w w' := by
  go_enter Try.func17, Try.ntmps17
  go_wp2
  go_loopw [3] (fun i wr => ∃ k : Nat, k ≤ len ∧ i = .int .i64 k ∧ allRight k x = true ∧ Below w.heap.size w wr) (fun i _ => len - (intOf i).toNat)
  case atStart => exact ⟨0, Nat.zero_le _, rfl, rfl, ext_refl _⟩
  case round =>
    obtain ⟨k, hk, rfl, hr, hE⟩ := hrel
    have HA := Lib.hid hr
    clear hr
    by_cases hlt : k < len
    · obtain ⟨b, off, rfl, hR'⟩ := (hR.ext hE).one hlt
      have q0 := hR'.c0 k hlt
      have q1 := hR'.c1 k hlt
      have q2 := hR'.c2 k hlt
      cases hx : (x k).right
      · have HX := Lib.hid hx
        clear hx
        go_wp2_with (first | (go_at_call 31; go_must (refine (rright_any (x k) _).mono ?_; rintro e w1 ⟨rfl, hb⟩; rw [HX.out])))
        go_ret
        refine ⟨by rw [allRight_no hlt HX.out]; rfl, ext_trans hE hb⟩
      · have HX := Lib.hid hx
        clear hx
        go_wp2_with (first | (go_at_call 31; go_must (refine (rright_any (x k) _).mono ?_; rintro e w1 ⟨rfl, hb⟩; rw [HX.out])))
        go_roundw
        case rel => exact ⟨k + 1, by omega, by go_num, by rw [allRight, HA.out, HX.out]; rfl, ext_trans hE hb⟩
        case measure => simp [intOf]; omega
    · have hkl : k = len := by omega
      subst hkl
      go_wp2
      go_ret
      refine ⟨?_, hE⟩
      rw [HA.out]
      simp
      omega

set_option maxHeartbeats 1000000 in
theorem rrowCompare_any (p p' : Option Addr) (len cap len' cap' : Nat) (x y : Nat → Val) (w : World) (hl : len ≤ 9223372036854775807) (hl' : len' ≤ 9223372036854775807) (hR : RowP w p len x) (hR' : RowP w p' len' y) :
    Calls Try.prog 23 #[.slice p len cap, .slice p' len' cap'] w fun e w' => e = .returned (.int .i64 (cmpRow len len' x y)) ∧ Below w.heap.size w w' := by
  go_enter Try.func23, Try.ntmps23
  go_wp2
  go_loopw [5] (fun i wr => ∃ k : Nat, k ≤ len ∧ k ≤ len' ∧ i = .int .i64 k ∧ Hid (cmpFrom len len' x y (min len len' - k) k = cmpRow len len' x y) ∧ Below w.heap.size w wr) (fun i _ => len - (intOf i).toNat)
  case atStart => exact ⟨0, Nat.zero_le _, Nat.zero_le _, rfl, rfl, ext_refl _⟩
  case round =>
    obtain ⟨k, hk, hk', rfl, HC, hE⟩ := hrel
    by_cases hlt : k < len
    · by_cases hlt' : k < len'
      · obtain ⟨b, off, rfl, S⟩ := (hR.ext hE).one hlt
        obtain ⟨b', off', rfl, S'⟩ := (hR'.ext hE).one hlt'
        have lb := S.lt (by omega)
        have lb' := S'.lt (by omega)
        have q0 := fun (z : After wr) => (z.cell b _ lb).trans (S.c0 k hlt)
        have q1 := fun (z : After wr) => (z.cell b _ lb).trans (S.c1 k hlt)
        have q2 := fun (z : After wr) => (z.cell b _ lb).trans (S.c2 k hlt)
        have p0 := fun (z : After wr) => (z.cell b' _ lb').trans (S'.c0 k hlt')
        have p1 := fun (z : After wr) => (z.cell b' _ lb').trans (S'.c1 k hlt')
        have p2 := fun (z : After wr) => (z.cell b' _ lb').trans (S'.c2 k hlt')
        have is := After.some wr
        obtain ⟨f, hf⟩ : ∃ f, min len len' - k = f + 1 := ⟨min len len' - k - 1, by omega⟩
        have hf' : min len len' - (k + 1) = f := by omega
        have HF := Lib.hid hf
        have HF' := Lib.hid hf'
        clear hf hf' S S'
        cases hc : (x k).cmp (y k) != 0
        · go_wp2_with fail
          refine wp_region_after (by kernel_rfl) (by kernel_rfl) ?_
          repeat (quiet_step ((first | (go_at_call 36; exact calls_after (rcompare_any (x k) (y k) _)))))
          refine wpQuiet_nil ?_
          intro _ hw
          obtain ⟨⟨W1, hb⟩, rfl⟩ := hw
          clear q0 q1 q2 p0 p1 p2 is
          go_wp2
          go_roundw
          case rel =>
            refine ⟨k + 1, by omega, by omega, by go_num, ?_, ext_trans hE hb⟩
            show _ = _
            rw [HF'.out, ← HC.out, HF.out, cmpFrom, if_neg (by rw [hc]; exact Bool.false_ne_true)]
          case measure => simp [intOf]; omega
        · go_wp2_with fail
          refine wp_region_after (by kernel_rfl) (by kernel_rfl) ?_
          repeat (quiet_step ((first | (go_at_call 36; exact calls_after (rcompare_any (x k) (y k) _)))))
          refine wpQuiet_nil ?_
          intro _ hw
          obtain ⟨⟨W1, hb⟩, rfl⟩ := hw
          clear q0 q1 q2 p0 p1 p2 is
          go_wp2
          go_ret
          refine ⟨?_, ext_trans hE hb⟩
          rw [← HC.out, HF.out, cmpFrom, if_pos hc]
          rfl
      · have hkl : k = len' := by omega
        have h0 : min len len' - k = 0 := by omega
        rw [h0] at HC
        have HC' := HC.out
        rw [cmpFrom] at HC'
        have HK := Lib.hid HC'
        clear HC HC' h0
        by_cases h1 : len < len'
        · omega
        · have h2 : len' < len := by omega
          go_wp2
          go_ret
          refine ⟨?_, hE⟩
          rw [← HK.out, if_neg h1, if_pos h2]
          rfl
    · have h0 : min len len' - k = 0 := by omega
      rw [h0] at HC
      have HC' := HC.out
      rw [cmpFrom] at HC'
      have HK := Lib.hid HC'
      clear HC HC' h0
      by_cases h1 : len < len'
      · go_wp2
        go_ret
        refine ⟨?_, hE⟩
        rw [← HK.out, if_pos h1]
        rfl
      · have h2 : ¬ len' < len := by omega
        go_wp2
        go_ret
        refine ⟨?_, hE⟩
        rw [← HK.out, if_neg h1, if_neg h2]
        rfl

end Go.Proofs.Ytmhcdmebienlpaa
