/- Rows in any order are sorted to the same list, rising, with the same rows: whatever the rows. Conditions: none. -/
import Derived.Test.YtmhcdmebienlpaaEx2
import Derived.Test.YtmhcdmebienlpaaOpenRows
import Derived.Test.YtmhcdmebienlpaaRowSame
import Derived.Test.YtmhcdmebienlpaaSortT
import Derived.Test.YtmhcdmebienlpaaOwnR
namespace Go.Proofs.Ytmhcdmebienlpaa
open Go.ChangeShapes Go.WideShapes Go.ChangeAt Go.RowKit Go.Joins
open Go.Sort (PermIn SortedIn SWO)

set_option maxRecDepth 100000 in
set_option maxHeartbeats 4000000 in
theorem any_walk (R : Rws) (q : Option Addr) (n cap : Nat) (w : World) (hcap : n ≤ cap) (hn : n ≤ 9223372036854775807) (hm : min (n : Int) 60 = (R.n : Int)) (hat : R.at_ w q) (hok : R.ok w) (hl : ∀ i, i < R.n → R.l i ≤ 4398046511104) :
    Calls Try.prog 8 #[.slice q n cap] w fun e w' => e = .returned (.bool true) ∧ Below w.heap.size w w' := by
  have hmn : R.n ≤ n := by omega
  have hm60 : R.n ≤ 60 := by omega
  go_enter Try.func8, Try.ntmps8
  go_wp2_with fail
  refine (ex2_any _).mono ?_
  rintro e w1 ⟨rfl, hb1⟩
  go_wp2_with fail
  have H0 := Lib.hid (show R.at_ w1 q from fun k hk => by
    obtain ⟨b, off, h1, h2, h3⟩ := hat k hk
    exact ⟨b, off, h1, Nat.lt_of_lt_of_le h2 hb1.size, fun i hi => (hb1.cell (p := ⟨b, _, none⟩) h2).trans (h3 i hi)⟩)
  have HO := Lib.hid (show R.ok w1 from ⟨fun i hi => (hok.row i hi).ext hb1, hok.len⟩)
  have HW := Lib.hid hb1
  clear hat hok hb1
  go_loopw [4, 5] (fun vt vi wr => ∃ (k : Nat) (z : Int), vi = .int .i64 z ∧ k ≤ R.n ∧ Hid (z = (R.n : Int) - 1 - (k : Int)) ∧ Hid (OwnR wr w1.heap.size vt ((List.range k).map fun i => R.v (R.n - 1 - i)) ∧ Below w1.heap.size w1 wr)) (fun vt vi _ => (intOf vi + 1).toNat)
  case atStart => exact ⟨0, (R.n : Int) - 1, by first | rfl | go_num, Nat.zero_le _, by show _ = _; omega, ⟨World.ownsRow_nil _ _ _ _, Below.refl _ _⟩⟩
  case round =>
    obtain ⟨k, z, rfl, hk, HZ, HH⟩ := hrel
    by_cases hlt : k < R.n
    · obtain ⟨j, hj⟩ : ∃ j, j = R.n - 1 - k := ⟨_, rfl⟩
      have hzj : z = (j : Int) := by have := HZ.out; omega
      subst hzj
      obtain ⟨b, off, hq, hb, hc⟩ := H0.out j (by omega)
      have c0 := (HH.out.2.cell (p := ⟨b, _, none⟩) hb).trans (hc j (by omega))
      subst hq
      clear hc
      have hjn : j < R.n := by omega
      have HJ := Lib.hid hj
      clear hj
      go_wp2_with (at_builtin; refine wp_append_slice rfl _ _ rfl w1.heap.size _ _ rfl (HH.out.1.later ?k1) (R.v j) _ _ rfl ?k2 rfl ?k3 ?k4 ?_)
      case k1 => exact (Below.refl _ _).alloc (Nat.le_refl _) _
      case k2 => exact Lib.cell_of_heap (heap_alloc_new _ _) 0
      case k3 => simp; omega
      case k4 => have := HH.out.2.size; simp; omega
      intro v' w' HO' _ hb'
      go_wp2
      go_roundw
      case rel =>
        refine ⟨k + 1, (j : Int) - 1, by first | rfl | go_num, hlt, by show _ = _; have := HJ.out; omega, ⟨?_, HH.out.2.trans (((Below.refl _ _).alloc HH.out.2.size _).trans hb')⟩⟩
        rw [List.range_succ, List.map_append]
        simpa [← HJ.out] using HO'
      case measure => simp [intOf] <;> omega
    · have hkn : k = R.n := by omega
      subst hkn
      have hz1 : z = -1 := by have := HZ.out; omega
      subst hz1
      clear HZ
      obtain ⟨T, hT⟩ : ∃ T : Rws, T = ⟨R.n, fun i => R.q (R.n - 1 - i), fun i => R.l (R.n - 1 - i), fun i => R.c (R.n - 1 - i), fun i => R.x (R.n - 1 - i)⟩ := ⟨_, rfl⟩
      have hTn : T.n = R.n := by rw [hT]
      have hTv : ∀ i, T.v i = R.v (R.n - 1 - i) := fun i => by rw [hT]
      have hTrow : ∀ i, T.row i = R.row (R.n - 1 - i) := fun i => by rw [hT]; rfl
      have hTok : T.ok wr := by
        rw [hT]
        exact ⟨fun i hi => (HO.out.row (R.n - 1 - i) (by have : i < R.n := hi; omega)).ext HH.out.2, fun i hi => HO.out.len (R.n - 1 - i) (by have : i < R.n := hi; omega)⟩
      have hTl : ∀ i, i < T.n → T.l i ≤ 4398046511104 := by
        rw [hT]
        exact fun i hi => hl (R.n - 1 - i) (by have : i < R.n := hi; omega)
      obtain ⟨pt, ct, rfl, hTat⟩ := OwnR.rws (R := T) (by have := HH.out.1; rw [hTn, show T.v = fun i => R.v (R.n - 1 - i) from funext hTv]; exact this)
      have hRok : R.ok wr := ⟨fun i hi => (HO.out.row i hi).ext HH.out.2, HO.out.len⟩
      have hRat : R.at_ wr q := fun k hk => by
        obtain ⟨b, off, h1, h2, h3⟩ := H0.out k hk
        exact ⟨b, off, h1, Nat.lt_of_lt_of_le h2 HH.out.2.size, fun i hi => (HH.out.2.cell (p := ⟨b, _, none⟩) h2).trans (h3 i hi)⟩
      have HB := Lib.hid (HW.out.trans (HH.out.2.mono HW.out.size))
      clear HH H0 HO HW
      have HTN := Lib.hid hTn
      rw [hTn] at hTl
      have HTR := Lib.hid hTrow
      clear hT hTn hTv hTrow
      go_wp2_with fail
      refine (rowSort_any R q cap wr hRok (by omega) hl hRat).mono ?_
      rintro _ w3 ⟨rfl, hb3, d, B, D, hd, P, so, LA, hB⟩
      have hTat3 : T.at_ w3 pt := fun k hk => by
        obtain ⟨b, off, h1, h2, h3⟩ := hTat k hk
        exact ⟨b, off, h1, Nat.lt_of_lt_of_le h2 hb3.size, fun i hi => (hb3.cell (p := ⟨b, _, none⟩) h2).trans (h3 i hi)⟩
      have hc := rowSort_any T pt ct w3 ⟨fun i hi => (hTok.row i hi).ext hb3, hTok.len⟩ (by have := HTN.out; omega) (by rw [HTN.out]; exact hTl) hTat3
      simp only [HTN.out] at hc
      have HPS := Lib.hid (And.intro P so)
      have HD := Lib.hid hd
      clear hTat hTat3 hTok hRat hRok P so hd hB
      go_wp2_with fail
      rw [HTN.out]
      refine hc.mono ?_
      clear hc
      rintro _ w4 ⟨rfl, hb4, d2, B2, D2, hd2, P2, so2, LB, hB2⟩
      have hsame : ∀ i, i < R.n → R.row (d i) = T.row (d2 i) := fun i hi => by
        rw [(HD.out i hi).2, (hd2 i hi).2]
        refine sorted_each R T D D2 HPS.out.1 HPS.out.2 (by rw [HTN.out]; exact P2) (by rw [HTN.out]; exact so2) ?_ i hi (by rw [HTN.out]; exact hi)
        rw [HTN.out, show T.row = fun i => R.row (R.n - 1 - i) from funext HTR.out, range_rev]
        exact (List.reverse_perm _).symm
      have HS1 := Lib.hid (show sameRows (fun i => R.l (d i)) (fun i => T.l (d2 i)) (fun i => R.x (d i)) (fun i => T.x (d2 i)) R.n = true from sameRows_iff.2 fun i hi => rows_of_eq (hsame i hi))
      have LA4 := LA.ext hb4
      clear LA hd2 P2 so2 hB2 hsame
      go_wp2_with fail
      refine (rows_any _ _ R.n R.n R.n R.n _ _ _ _ _ _ _ _ _ (by omega) (by omega) LA4 LB).mono ?_
      rintro _ w5 ⟨rfl, hb5⟩
      rw [HS1.out]
      clear LB
      have LA5 := LA4.ext hb5
      obtain ⟨A, hA⟩ : ∃ A : Rws, A = ⟨R.n, fun i => some ⟨B i, 0, none⟩, fun i => R.l (d i), fun i => R.l (d i), fun i => R.x (d i)⟩ := ⟨_, rfl⟩
      have hAn : A.n = R.n := by rw [hA]
      have hArow : ∀ i, A.row i = R.row (d i) := fun i => by rw [hA]; rfl
      have hc := rowSort_any A (some ⟨wr.heap.size, 0, none⟩) R.n w5 (by rw [hA]; exact ⟨LA5.row, LA5.len⟩) (by omega) (by rw [hA]; exact fun i hi => hl _ (HD.out i hi).1) (by rw [hA]; exact LA5.one)
      simp only [hAn] at hc
      have HA := Lib.hid (And.intro hAn hArow)
      have HAl := Lib.hid (show A.l = (fun i => R.l (d i)) ∧ A.x = (fun i => R.x (d i)) from by rw [hA]; exact ⟨rfl, rfl⟩)
      clear hA hAn hArow LA4
      have HB5 := Lib.hid (ext_trans HB.out (ext_trans hb3 (ext_trans hb4 hb5)))
      clear hb3 hb4 hb5 HB
      go_wp2_with fail
      refine hc.mono ?_
      clear hc
      rintro _ w6 ⟨rfl, hb6, d3, B3, D3, hd3, P3, so3, LC, hB3⟩
      have hsame : ∀ i, i < R.n → A.row (d3 i) = A.row i := fun i hi => by
        rw [HA.out.2 i, (hd3 i hi).2, (HD.out i hi).2]
        refine sorted_each A R D3 D (by rw [HA.out.1]; exact P3) (by rw [HA.out.1]; exact so3) HPS.out.1 HPS.out.2 ?_ i (by rw [HA.out.1]; exact hi) hi
        rw [HA.out.1]
        have e : (List.range R.n).map A.row = R.ord_ D := by
          have hDs : D.size = R.n := by simpa using HPS.out.1.1
          apply List.ext_getElem?
          intro k
          by_cases hk : k < R.n
          · rw [R.ord_at D k (by omega)]
            simp [hk, HA.out.2, (HD.out k hk).2]
          · rw [List.getElem?_eq_none (by simp; omega), List.getElem?_eq_none (by simp [Rws.ord_]; omega)]
        rw [e]
        exact R.perm_list D HPS.out.1
      have HS2 := Lib.hid (show sameRows (fun i => A.l (d3 i)) (fun i => R.l (d i)) (fun i => A.x (d3 i)) (fun i => R.x (d i)) R.n = true from by
        have := sameRows_iff.2 fun i (hi : i < R.n) => rows_of_eq (hsame i hi)
        rw [← HAl.out.1, ← HAl.out.2]
        exact this)
      have LA6 := LA5.ext hb6
      clear LA5 hd3 P3 so3 hB3 hsame
      go_wp2_with fail
      refine (rows_any _ _ R.n R.n R.n R.n _ _ _ _ _ _ _ _ _ (by omega) (by omega) LC LA6).mono ?_
      rintro _ w7 ⟨rfl, hb7⟩
      rw [HS2.out]
      clear LC
      obtain ⟨g, hg⟩ : ∃ g, g = wr.heap.size := ⟨_, rfl⟩
      have LA7 := Lib.hid (show ListP w7 (some ⟨g, 0, none⟩) R.n (fun i => some ⟨B i, 0, none⟩) (fun i => R.l (d i)) (fun i => R.l (d i)) (fun i => R.x (d i)) from by rw [hg]; exact LA6.ext hb7)
      rw [← hg]
      have HB7 := Lib.hid (ext_trans HB5.out (ext_trans hb6 hb7))
      clear LA6 HS1 HS2 hb6 hb7 HA HAl HB5 HTR HTN hTl hg
      go_wp2_with fail
      go_loopw [10] (fun vi wr => ∃ k : Nat, vi = .int .i64 ((k : Int) + 1) ∧ k ≤ R.n ∧ Hid (Below w7.heap.size w7 wr)) (fun vi _ => R.n + 1 - (intOf vi).toNat)
      case atStart => exact ⟨0, rfl, Nat.zero_le _, Below.refl _ _⟩
      case round =>
        obtain ⟨k, rfl, hk, HQ⟩ := hrel
        by_cases hlt : k + 1 < R.n
        · have hz1 : (k : Int) + 1 < (R.n : Int) := by omega
          have hz0 : (k : Int) < (R.n : Int) := by omega
          have hz2 : k < R.n := by omega
          have hz3 : ((k : Int) + 1).toNat = k + 1 := by omega
          have hz4 : (0 : Int) ≤ (k : Int) + 1 := by omega
          have hz7 : IntKind.i64.wrap (k : Int) = (k : Int) := by rw [IntKind.wrap_i64]; omega
          have hz8 : IntKind.i64.wrap ((k : Int) + 1) = (k : Int) + 1 := by rw [IntKind.wrap_i64]; omega
          have LL := LA7.out.ext HQ.out
          obtain ⟨b, off, e, hb, hcell⟩ := LL.one k (by omega)
          cases e
          have c0 : ∀ x : After wr, x.W.cell? ⟨g, k, none⟩ = some (.slice (some ⟨B k, 0, none⟩) (R.l (d k)) (R.l (d k))) := fun x => (x.cell _ _ hb).trans (by have := hcell k (by omega); rwa [Nat.zero_add] at this)
          have c1 : ∀ x : After wr, x.W.cell? ⟨g, k + 1, none⟩ = some (.slice (some ⟨B (k + 1), 0, none⟩) (R.l (d (k + 1))) (R.l (d (k + 1)))) := fun x => (x.cell _ _ hb).trans (by have := hcell (k + 1) hlt; rwa [Nat.zero_add] at this)
          have hcmp : ¬ (0 : Int) < cmpRow (R.l (d k)) (R.l (d (k + 1))) (R.x (d k)) (R.x (d (k + 1))) := by
            have h1 := HPS.out.2 k (k + 1) (Nat.zero_le _) (by omega) hlt
            rw [← (HD.out k (by omega)).2, ← (HD.out (k + 1) hlt).2] at h1
            have h2 : ¬ cmpRow (R.l (d (k + 1))) (R.l (d k)) (R.x (d (k + 1))) (R.x (d k)) < 0 := of_decide_eq_false h1
            have h3 := (cmpRow_ord (R.l (d k)) (R.l (d (k + 1))) (R.l (d k)) (R.x (d k)) (R.x (d (k + 1))) (R.x (d k))).anti
            omega
          have r0 := LL.row k (by omega)
          have r1 := LL.row (k + 1) hlt
          have l0 := LL.len k (by omega)
          have l1 := LL.len (k + 1) hlt
          clear hcell LL hb
          go_wp2_with fail
          have is := After.some wr
          refine wp_region_after (by kernel_rfl) (by kernel_rfl) ?_
          repeat (quiet_step ((go_at_call 22; exact calls_after (rowCompare_any _ _ _ _ _ _ _ _ _ l0 l1 (r0.ext (After.below _)) (r1.ext (After.below _))))))
          refine wpQuiet_nil ?_
          intro _ hw
          obtain ⟨⟨W1, hbW⟩, rfl⟩ := hw
          clear is
          go_wp2
          go_roundw
          case rel => exact ⟨k + 1, by go_num, by omega, ext_trans HQ.out hbW⟩
          case measure => simp [intOf] <;> omega
        · have hz1 : ¬ (k : Int) + 1 < (R.n : Int) := by omega
          go_wp2
          go_ret
          exact ⟨rfl, ext_trans HB7.out HQ.out⟩

theorem any_law (R : Rws) (q : Option Addr) (cap : Nat) (w : World) (hcap : R.n ≤ cap) (hn : R.n ≤ 9223372036854775807) (hat : R.at_ w q) (hok : R.ok w) (hl : ∀ i, i < R.n → R.l i ≤ 4398046511104) :
    Calls Try.prog 8 #[.slice q R.n cap] w fun e w' => e = .returned (.bool true) ∧ Below w.heap.size w w' :=
  any_walk ⟨min R.n 60, R.q, R.l, R.c, R.x⟩ q R.n cap w hcap hn (by show _ = ((min R.n 60 : Nat) : Int); omega)
    (fun k hk => by
      have hk : k < min R.n 60 := hk
      obtain ⟨b, off, h1, h2, h3⟩ := hat k (by omega)
      exact ⟨b, off, h1, h2, fun i hi => h3 i (by have hi : i < min R.n 60 := hi; omega)⟩)
    ⟨fun i hi => hok.row i (by have hi : i < min R.n 60 := hi; omega), fun i hi => hok.len i (by have hi : i < min R.n 60 := hi; omega)⟩ (fun i hi => hl i (by have hi : i < min R.n 60 := hi; omega))

/- FRAME -/

set_option maxRecDepth 100000 in
theorem rowAny_lifted (os : Os) (started : os.Started) (H : Type) (enc : TypeId × Value → H) :
    ReturnsInHanded {} Try.checked os 8 .any (Rows.rowAnySpec.pre6 enc Try.prog Try.f8 Rows.rowAnyRow.domain false) (Rows.rowAnySpec.post enc Try.prog Try.f8 false true false false) := by
  refine returnsInHanded_of_change_sized (C := Try.checked) Try.own started (by kernel_rfl) Try.func8
    (ChangeSpec.witness6 (enc := enc) (C := Try.checked) false ⟨#[], #[.slice none 0 0], []⟩ 8 (by kernel_rfl) (by kernel_rfl) (by kernel_rfl) (by kernel_rfl)) ?_
  intro W base args ds gs before hval0 hW _ hsz _
  have hval : ∀ (j : Nat) t v, Try.f8.params[j]? = some t → args[j]? = some v → Value.okWide Try.prog W .any base t v := hval0
  have hW' := hW
  obtain ⟨p, q, hA0, hV, rfl, _, _⟩ := hW
  have hA : DataW.TrodAll enc Try.prog W 0 (fun _ => true) true Try.f8.params.toList args.toList ds p := hA0
  rw [Try.params8] at hA hval hsz
  obtain ⟨v0, d0, rfl, rfl, h0⟩ := trodAll_one hA
  obtain ⟨R0, q0, c0, rfl, le0, m0, at0, ok0, l0⟩ := open_rowlist (hval 0 34 v0 rfl rfl) h0 (fun n hn => of_decide_eq_true (List.all_eq_true.1 hsz _ (DataW.weights_mem_each (j := 0) (t := 34) rfl rfl n hn)))
  clear hA0 hval0
  refine (any_law R0 q0 c0 W le0 m0 at0 ok0 l0).mono fun e W' ⟨he, hb⟩ => ⟨_, he, post_law rfl hW' rfl rfl ?_ hb⟩
  intro t ht
  rw [Try.params8] at ht
  simp only [List.mem_cons, List.not_mem_nil, or_false] at ht
  subst ht <;> exact ⟨by kernel_rfl, of_decide_eq_true (by kernel_rfl)⟩

theorem rowAny_holds : Rows.RowAnySaid :=
  OpenClaim.holds_of_wide 8 Try.f8 rfl rfl rfl rfl rfl rfl rfl ⟨rfl, rfl, rfl, rfl, rfl⟩ rfl rfl rfl rfl rfl (by kernel_rfl) Try.func8 (by kernel_rfl)
    (of_decide_eq_true (by kernel_rfl)) (by unfold Func.isWrapper; rw [if_neg (of_decide_eq_false (by kernel_rfl))]; exact ⟨rfl, rfl⟩)
    (fun os started H enc _ => rowAny_lifted os started H enc)

#print axioms rowAny_holds

end Go.Proofs.Ytmhcdmebienlpaa
