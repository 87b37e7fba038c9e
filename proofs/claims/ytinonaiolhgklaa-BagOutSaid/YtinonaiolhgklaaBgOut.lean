/- All that was put in can be taken out again, as often as it was, and then it is empty: whatever the texts. Conditions: none. -/
import Derived.Test.YtinonaiolhgklaaBgE
import Derived.Test.YtinonaiolhgklaaBgO
namespace Go.Proofs.Ytinonaiolhgklaa
open Go.ChangeShapes Go.WideShapes Go.ChangeAt Go.RowKit Go.Joins Go.Maps
open Go.Proofs (encStr)

theorem rev_succ (T : Nat → ByteArray) (k : Nat) : (lst T (k + 1)).reverse = (T k).data.toList :: (lst T k).reverse := by rw [lst_succ, List.reverse_append]; rfl

set_option maxRecDepth 100000 in
set_option maxHeartbeats 4000000 in
theorem out_walk (q : Option Addr) (n cap k : Nat) (T : Nat → ByteArray) (s : ByteArray) (w : World) (hcap : n ≤ cap) (hn : n ≤ 9223372036854775807) (hm : min (n : Int) 200 = (k : Int)) (hT : TxtP w q k T) (hs : ∀ i, i < k → (T i).size ≤ 9223372036854775807) (hss : s.size ≤ 9223372036854775807) :
    Calls Try.prog 6 #[.slice q n cap, .string s] w fun e w' => e = .returned (.bool true) ∧ Below w.heap.size w w' := by
  have hmn : k ≤ n := by omega
  have hm2 : k ≤ 200 := by omega
  go_enter Try.func6, Try.ntmps6
  go_wp2_with fail
  refine (ex3_any _).mono ?_
  rintro e w1 ⟨rfl, hb1⟩
  go_wp2_with fail
  refine (new_any w1).mono ?_
  rintro e w2 ⟨p, m, rfl, hB, hb2, hp, hmm⟩
  have HT := Lib.hid hT
  have E2 := Lib.hid (ext_trans hb1 hb2)
  have hp2 : w.heap.size ≤ p := Nat.le_trans hb1.size hp
  have hmm2 : w.heap.size ≤ m := Nat.le_trans hb1.size hmm
  clear hT hb1 hb2
  go_wp2_with fail
  go_loopw [7] (fun vi wr => ∃ j : Nat, vi = .int .i64 j ∧ j ≤ k ∧ Hid (BagP wr p m j (lst T j).reverse ∧ Below w.heap.size w wr)) (fun vi _ => k - (intOf vi).toNat)
  case atStart => exact ⟨0, rfl, Nat.zero_le _, ⟨hB, E2.out⟩⟩
  case round =>
    obtain ⟨j, rfl, hj, HH⟩ := hrel
    clear hB
    by_cases hlt : j < k
    · obtain ⟨b, off, rfl, hb, hc⟩ := HT.out j hlt
      have c0 := (HH.out.2.cell (p := ⟨b, _, none⟩) hb).trans (hc j hlt)
      clear hc
      have hll : (lst T j).reverse.length < 9223372036854775807 := by rw [List.length_reverse, lst_length]; omega
      go_wp2_with fail
      refine (bagAdd_any p m j _ (T j) wr (hs j hlt) hll (by omega) HH.out.1).mono ?_
      rintro e w3 ⟨rfl, h1, h2⟩
      go_wp2
      go_roundw
      case rel =>
        refine ⟨j + 1, by go_num, hlt, ⟨?_, HH.out.2.trans (h2.below HH.out.2.size fun i hi => by rcases hi with rfl | rfl <;> assumption)⟩⟩
        rw [rev_succ]; exact h1
      case measure => simp [intOf]; omega
    · have hjk : j = k := by omega
      subst hjk
      have hll : (lst T j).reverse.length = j := by rw [List.length_reverse, lst_length]
      go_wp2_with fail
      refine (len_any p m j _ wr HH.out.1).mono ?_
      rintro e w3 ⟨rfl, rfl⟩
      rw [hll]
      go_wp2_with fail
      go_loopw [8, 9] (fun vi _ wq => ∃ (i N : Nat) (z : Int), vi = .int .i64 z ∧ i ≤ j ∧ Hid (z = (i : Int) - 1) ∧ Hid (BagP wq p m N (lst T i).reverse ∧ N + i ≤ j + j ∧ Below w.heap.size w wq)) (fun vi _ _ => (intOf vi + 1).toNat)
      case atStart => exact ⟨j, j, (j : Int) - 1, by first | rfl | go_num, Nat.le_refl _, by show _ = _; omega, ⟨HH.out.1, Nat.le_refl _, HH.out.2⟩⟩
      case round =>
        obtain ⟨i, N, z, rfl, hi, HZ, HI⟩ := hrel
        clear hll
        cases i with
        | zero =>
          have hz : z = -1 := by have := HZ.out; omega
          subst hz
          have hN := HI.out.2.1
          have e0 : (lst T 0).reverse = [] := rfl
          have hB0 := HI.out.1
          rw [e0] at hB0
          have HB0 := Lib.hid hB0
          clear hB0 e0
          go_wp2_with fail
          refine (len_any p m N [] _ HB0.out).mono ?_
          rintro e w4 ⟨rfl, rfl⟩
          go_wp2_with fail
          refine (bagKinds_any p m N [] w4 HB0.out (by omega)).mono ?_
          rintro e w5 ⟨v, K, rfl, hK, hO, hb5⟩
          have hK0 : K = [] := hK.uniq (K' := []) (L' := []) ⟨List.Pairwise.nil, fun s => Iff.rfl⟩ fun s => Iff.rfl
          subst hK0
          obtain ⟨pk, ck, hv, _, _, _⟩ := hO.src
          have hv : v = .slice pk 0 ck := hv
          subst hv
          have hB5 := HB0.out.ext hb5
          have E5 := Lib.hid (HI.out.2.2.trans (hb5.mono HI.out.2.2.size))
          clear hO hK hb5
          go_wp2_with fail
          refine (bagTake_any p m N [] s w5 hss hB5 (by simp) (by omega)).mono ?_
          rintro e w6 ⟨rfl, hB6, o6⟩
          have hB6 : BagP w6 p m (N + 1) [] := hB6
          have E6 := Lib.hid (E5.out.trans (o6.below E5.out.size fun i hi => by rcases hi with rfl | rfl <;> assumption))
          clear hB5 o6
          go_wp2_with fail
          refine (count_any p m (N + 1) [] s w6 hss hB6).mono ?_
          rintro e w7 ⟨rfl, rfl⟩
          go_wp2
          go_ret
          exact ⟨rfl, E6.out⟩
        | succ i =>
          have hz : z = (i : Int) := by have := HZ.out; omega
          subst hz
          obtain ⟨b, off, rfl, hb, hc⟩ := HT.out i (by omega)
          have c0 := (HI.out.2.2.cell (p := ⟨b, _, none⟩) hb).trans (hc i (by omega))
          have hN := HI.out.2.1
          have hij : i < j := by omega
          have hB1 := HI.out.1
          rw [rev_succ] at hB1
          obtain ⟨x, hx⟩ : ∃ x, x = T i := ⟨_, rfl⟩
          have hxs : x.size ≤ 9223372036854775807 := by rw [hx]; exact hs i (by omega)
          rw [← hx] at hB1 c0
          obtain ⟨R, hR⟩ : ∃ R, R = (lst T i).reverse := ⟨_, rfl⟩
          have hRl : R.length = i := by rw [hR, List.length_reverse, lst_length]
          rw [← hR] at hB1
          have HX := Lib.hid (And.intro hx hR)
          have HB1 := Lib.hid hB1
          have HRL := Lib.hid hRl
          have hcR : R.count x.data.toList ≤ R.length := List.count_le_length
          rw [hRl] at hcR
          have hcc : (x.data.toList :: R).count x.data.toList = R.count x.data.toList + 1 := List.count_cons_self
          have HCC := Lib.hid hcc
          have HC := Lib.hid hc
          clear hx hR hB1 hRl hcc hc
          go_wp2_with fail
          refine (count_any p m N _ x _ hxs HB1.out).mono ?_
          rintro e w4 ⟨rfl, rfl⟩
          rw [HCC.out]
          go_wp2_with fail
          refine (bagTake_any p m N _ x w4 hxs HB1.out (by rw [List.length_cons, HRL.out]; omega) (by omega)).mono ?_
          rintro e w5 ⟨rfl, hB5, o5⟩
          rw [show decide (x.data.toList ∈ x.data.toList :: R) = true from by simp]
          rw [List.erase_cons_head] at hB5
          have E5 := Lib.hid (HI.out.2.2.trans (o5.below HI.out.2.2.size fun i hi => by rcases hi with rfl | rfl <;> assumption))
          have c0 := (E5.out.cell (p := ⟨b, _, none⟩) hb).trans (HC.out i (by omega))
          rw [← HX.out.1] at c0
          have HB5 := Lib.hid hB5
          clear o5 hB5
          go_wp2_with fail
          refine (count_any p m (N + 1) _ x w5 hxs HB5.out).mono ?_
          rintro e w6 ⟨rfl, rfl⟩
          go_wp2_with fail
          refine (len_any p m (N + 1) _ w6 HB5.out).mono ?_
          rintro e w7 ⟨rfl, rfl⟩
          rw [HRL.out]
          go_wp2
          go_roundw
          case rel => exact ⟨i, N + 1, (i : Int) - 1, by first | rfl | go_num, by omega, by show _ = _; omega, ⟨by rw [← HX.out.2]; exact HB5.out, by omega, E5.out⟩⟩
          case measure => simp [intOf] <;> omega

/- FRAME -/

set_option maxRecDepth 100000 in
theorem bagOut_lifted (os : Os) (started : os.Started) (H : Type) (enc : TypeId × Value → H) :
    ReturnsInHanded {} Try.checked os 6 .any (Rows.bagOutSpec.pre6 enc Try.prog Try.f6 Rows.bagOutRow.domain false) (Rows.bagOutSpec.post enc Try.prog Try.f6 false true false false) := by
  refine returnsInHanded_of_change (C := Try.checked) Try.own started (by kernel_rfl) Try.func6
    (ChangeSpec.witness6 (enc := enc) (C := Try.checked) false ⟨#[], #[.slice none 0 0, .string ⟨#[]⟩], []⟩ 8 (by kernel_rfl) (by kernel_rfl) (by kernel_rfl) (by kernel_rfl)) ?_
  intro W base args ds gs before hval0 hW _ _
  have hval : ∀ (j : Nat) t v, Try.f6.params[j]? = some t → args[j]? = some v → Value.okWide Try.prog W .any base t v := hval0
  have hW' := hW
  obtain ⟨p, q, hA0, hV, rfl, _, _⟩ := hW
  have hA : DataW.TrodAll enc Try.prog W 0 (fun _ => true) true Try.f6.params.toList args.toList ds p := hA0
  rw [Try.params6] at hA hval
  obtain ⟨v0, v1, d0, d1, p0, p1, rfl, rfl, rfl, h0, h1⟩ := trodAll_two hA
  obtain ⟨q0, n0, c0, T0, rfl, le0, m0, tx0, ts0, td0⟩ := open_texts (hval 0 22 v0 rfl rfl) h0
  obtain ⟨s1, rfl, zs1⟩ := open_word (hval 1 9 v1 rfl rfl) h1
  clear hA0 hval0
  refine (out_walk q0 n0 c0 (min n0 200) T0 s1 W le0 m0 (by omega) (tx0.le (by omega)) (fun i hi => ts0 i (by omega)) zs1).mono fun e W' ⟨he, hb⟩ => ⟨_, he, post_law rfl hW' rfl rfl ?_ hb⟩
  intro t ht
  rw [Try.params6] at ht
  simp only [List.mem_cons, List.not_mem_nil, or_false] at ht
  rcases ht with rfl | rfl <;> exact ⟨by kernel_rfl, of_decide_eq_true (by kernel_rfl)⟩

theorem bagOut_holds : Rows.BagOutSaid :=
  OpenClaim.holds_of_wide 6 Try.f6 rfl rfl rfl rfl rfl rfl rfl ⟨rfl, rfl, rfl, rfl, rfl⟩ rfl rfl rfl rfl rfl (by kernel_rfl) Try.func6 (by kernel_rfl)
    (of_decide_eq_true (by kernel_rfl)) (by unfold Func.isWrapper; rw [if_neg (of_decide_eq_false (by kernel_rfl))]; exact ⟨rfl, rfl⟩)
    (fun os started H enc _ => bagOut_lifted os started H enc)

#print axioms bagOut_holds

end Go.Proofs.Ytinonaiolhgklaa
