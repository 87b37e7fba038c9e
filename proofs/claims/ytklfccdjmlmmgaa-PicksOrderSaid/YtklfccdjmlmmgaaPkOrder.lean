/- An order has each number once: whatever the numbers. Conditions: none. -/
import Derived.Test.YtklfccdjmlmmgaaPkE
import Derived.Test.YtklfccdjmlmmgaaPkA
import Derived.Deep.OwnRows
namespace Go.Proofs.Ytklfccdjmlmmgaa
open Go.ChangeShapes Go.WideShapes Go.ChangeAt Go.RowKit Go.Joins

theorem Try.infoBool : (Try.prog.info? 4).map (fun i => (i.zero, i.size, i.bytes)) = some (some (.bool false), 1, 1) := by kernel_rfl

/-- What an order of N numbers is. -/
structure Ord (N : Nat) (out : List Int) : Prop where
  len : out.length = N
  each : ∀ i, i < N → ∃ k : Nat, out[i]? = some (k : Int) ∧ k < N ∧ (k : Int) ∉ out.take i
theorem shuf_ord (N : Nat) (L : List Int) : Ord N (shuf N (iota N) L).1 := by
  have hp := shuf_perm N (iota N) L (iota_len N)
  have hl : (shuf N (iota N) L).1.length = N := by rw [hp.length_eq, iota_len]
  have hn : (shuf N (iota N) L).1.Nodup := hp.nodup_iff.2 (iota_nodup N)
  refine ⟨hl, fun i hi => ?_⟩
  have hm : (shuf N (iota N) L).1[i]'(by omega) ∈ iota N := hp.mem_iff.1 (List.getElem_mem _)
  obtain ⟨h0, h1⟩ := iota_mem.1 hm
  refine ⟨((shuf N (iota N) L).1[i]'(by omega)).toNat, ?_, by omega, ?_⟩
  · rw [List.getElem?_eq_getElem (by omega)]
    congr 1
    omega
  · rw [show ((((shuf N (iota N) L).1[i]'(by omega)).toNat : Nat) : Int) = (shuf N (iota N) L).1[i]'(by omega) by omega]
    intro hx
    obtain ⟨j, hj, e⟩ := List.mem_take_iff_getElem.1 hx
    exact List.pairwise_iff_getElem.1 hn j i (by omega) (by omega) (by omega) e

set_option maxRecDepth 100000 in
set_option maxHeartbeats 2000000 in
theorem order_walk (q : Option Addr) (c : Nat) (L : List Int) (n : Int) (w : World) (hc : L.length ≤ c) (hc2 : c ≤ 9223372036854775807) (hS : SrcI w w.heap.size q L) (hF : Fit L) (hn : inR n = true) :
    Calls Try.prog 5 #[.slice q L.length c, .int .i64 n] w fun e w' => e = .returned (.bool true) ∧ Below w.heap.size w w' := by
  have hn2 := of_inR hn
  clear hn
  have HS := Lib.hid hS
  have HF := Lib.hid hF
  clear hS hF
  go_enter Try.func5, Try.ntmps5
  go_wp2_with fail
  refine (ex4_any _).mono ?_
  rintro e w0 ⟨rfl, hb0⟩
  have hs0 := hb0.size
  have E0 := Lib.hid hb0
  clear hb0
  by_cases h200 : 200 < n
  · obtain ⟨k, hk⟩ : ∃ k, k = n % 201 := ⟨_, rfl⟩
    have hk0 : k ≤ 200 := by omega
    have hkm : -9223372036854775808 ≤ k := by omega
    go_wp2_with fail
    rw [← hk]
    have HK := Lib.hid hk
    clear hk
    refine (new_some q c L.length (L.take 1000) w0 (fun i h => by rw [List.length_take]; omega) hc hc2 ((HS.out.ext E0.out).up hs0 |>.take 1000) (fun x hx => HF.out x (List.mem_of_mem_take hx)) (by rw [List.length_take]; omega)).mono ?_
    rintro e w1 ⟨p, ch, rfl, hP, hp, hch, hb⟩
    have E1 := Lib.hid (E0.out.trans (hb.mono hs0))
    have P1 := Lib.hid hP
    have hs1 : w.heap.size ≤ w1.heap.size := Nat.le_trans hs0 hb.size
    clear hb hP
    obtain ⟨N, hN'⟩ : ∃ N, N = k.toNat := ⟨_, rfl⟩
    have hN : ordN k = N := by rw [ordN_small hk0, hN']
    have hmax : max 0 k = (N : Int) := by omega
    have hN2 : N ≤ 200 := by omega
    have hkN : 0 < N → k = (N : Int) := by omega
    clear hN'
    go_wp2_with fail
    refine (shuffle_any w1.heap.size p ch (L.take 1000) k w1 P1.out (by omega) (by omega)).mono ?_
    rintro e w2 ⟨⟨v, rfl, hv⟩, _, o2⟩
    rw [hN] at hv
    obtain ⟨out, hout⟩ : ∃ out, out = (shuf N (iota N) (L.take 1000)).1 := ⟨_, rfl⟩
    have hO : Ord N out := by rw [hout]; exact shuf_ord _ _
    rw [← hout] at hv
    clear hout
    obtain ⟨q2, c2, rfl, _, _, hs⟩ := hv.srcI
    rw [hO.len]
    have hs2 := o2.size
    have E2 := Lib.hid (show Below w.heap.size w w2 from E1.out.trans (o2.below hs1 (fun k e => by omega)))
    have HO := Lib.hid hO
    have S2 := Lib.hid hs
    clear hv hs o2 hO
    have hmk := run_make_row' (P := Try.prog) 35 4 (.bool false) 1 Try.underlying35 Try.infoBool rfl .i64 .i64 N (by omega) (by omega)
    have HKN := Lib.hid hkN
    clear hkN
    go_wp2
    go_loopw [9] (fun vi wr => ∃ i : Nat, vi = .int .i64 i ∧ i ≤ N ∧ Hid (wr.rowIs w2.heap.size 4 N (fun j => .bool (decide ((j : Int) ∈ out.take i))) ∧ Below w2.heap.size w2 wr)) (fun vi _ => N - (intOf vi).toNat)
    case atStart => exact ⟨0, rfl, Nat.zero_le _, (World.rowIs_made w2 _ N _).congr (fun i _ => by simp), (Below.refl _ _).alloc (Nat.le_refl _) _⟩
    case round =>
      obtain ⟨i, rfl, hi, HH⟩ := hrel
      clear hmk
      by_cases hlt : i < N
      · obtain ⟨kk, hkk, hkl, hnew⟩ := HO.out.each i hlt
        obtain ⟨g, off, rfl, hg, hcell⟩ := S2.out i (by rw [HO.out.len]; exact hlt)
        have c0 := (HH.out.2.cell (p := ⟨g, off + i, none⟩) hg).trans (hcell i kk hkk)
        have c1 : wr.cell? ⟨w2.heap.size, kk, none⟩ = some (.bool false) := by rw [HH.out.1.cell hkl, decide_eq_false hnew]
        have f1 := HH.out.1.frozen
        have hkN := HKN.out (by omega)
        have hk1 : ¬ k ≤ (kk : Int) := by omega
        have HC := Lib.hid (And.intro hkk hnew)
        clear hcell hkk hnew
        go_wp2_with fail
        go_roundw
        case rel =>
          refine ⟨i + 1, by go_num, hlt, (HH.out.1.set kk (.bool true)).congr (fun j hj => ?_), ext_set (Nat.le_refl _) _ HH.out.2⟩
          rw [List.take_add_one, HC.out.1]
          by_cases e : j = kk
          · subst e; simp
          · have : ¬ (j : Int) = (kk : Int) := by omega
            simp [e, this]
        case measure => simp [intOf] <;> omega
      · have hiN : i = N := by omega
        subst hiN
        go_wp2
        go_ret
        exact ⟨rfl, E2.out.trans (HH.out.2.mono (Nat.le_trans hs1 hs2))⟩
  · obtain ⟨k, hk⟩ : ∃ k, k = n := ⟨_, rfl⟩
    have hk0 : k ≤ 200 := by omega
    have hkm : -9223372036854775808 ≤ k := by omega
    subst hk
    go_wp2_with fail
    refine (new_some q c L.length (L.take 1000) w0 (fun i h => by rw [List.length_take]; omega) hc hc2 ((HS.out.ext E0.out).up hs0 |>.take 1000) (fun x hx => HF.out x (List.mem_of_mem_take hx)) (by rw [List.length_take]; omega)).mono ?_
    rintro e w1 ⟨p, ch, rfl, hP, hp, hch, hb⟩
    have E1 := Lib.hid (E0.out.trans (hb.mono hs0))
    have P1 := Lib.hid hP
    have hs1 : w.heap.size ≤ w1.heap.size := Nat.le_trans hs0 hb.size
    clear hb hP
    obtain ⟨N, hN'⟩ : ∃ N, N = k.toNat := ⟨_, rfl⟩
    have hN : ordN k = N := by rw [ordN_small hk0, hN']
    have hmax : max 0 k = (N : Int) := by omega
    have hN2 : N ≤ 200 := by omega
    have hkN : 0 < N → k = (N : Int) := by omega
    clear hN'
    go_wp2_with fail
    refine (shuffle_any w1.heap.size p ch (L.take 1000) k w1 P1.out (by omega) (by omega)).mono ?_
    rintro e w2 ⟨⟨v, rfl, hv⟩, _, o2⟩
    rw [hN] at hv
    obtain ⟨out, hout⟩ : ∃ out, out = (shuf N (iota N) (L.take 1000)).1 := ⟨_, rfl⟩
    have hO : Ord N out := by rw [hout]; exact shuf_ord _ _
    rw [← hout] at hv
    clear hout
    obtain ⟨q2, c2, rfl, _, _, hs⟩ := hv.srcI
    rw [hO.len]
    have hs2 := o2.size
    have E2 := Lib.hid (show Below w.heap.size w w2 from E1.out.trans (o2.below hs1 (fun k e => by omega)))
    have HO := Lib.hid hO
    have S2 := Lib.hid hs
    clear hv hs o2 hO
    have hmk := run_make_row' (P := Try.prog) 35 4 (.bool false) 1 Try.underlying35 Try.infoBool rfl .i64 .i64 N (by omega) (by omega)
    have HKN := Lib.hid hkN
    clear hkN
    go_wp2
    go_loopw [9] (fun vi wr => ∃ i : Nat, vi = .int .i64 i ∧ i ≤ N ∧ Hid (wr.rowIs w2.heap.size 4 N (fun j => .bool (decide ((j : Int) ∈ out.take i))) ∧ Below w2.heap.size w2 wr)) (fun vi _ => N - (intOf vi).toNat)
    case atStart => exact ⟨0, rfl, Nat.zero_le _, (World.rowIs_made w2 _ N _).congr (fun i _ => by simp), (Below.refl _ _).alloc (Nat.le_refl _) _⟩
    case round =>
      obtain ⟨i, rfl, hi, HH⟩ := hrel
      clear hmk
      by_cases hlt : i < N
      · obtain ⟨kk, hkk, hkl, hnew⟩ := HO.out.each i hlt
        obtain ⟨g, off, rfl, hg, hcell⟩ := S2.out i (by rw [HO.out.len]; exact hlt)
        have c0 := (HH.out.2.cell (p := ⟨g, off + i, none⟩) hg).trans (hcell i kk hkk)
        have c1 : wr.cell? ⟨w2.heap.size, kk, none⟩ = some (.bool false) := by rw [HH.out.1.cell hkl, decide_eq_false hnew]
        have f1 := HH.out.1.frozen
        have hkN := HKN.out (by omega)
        have hk1 : ¬ k ≤ (kk : Int) := by omega
        have HC := Lib.hid (And.intro hkk hnew)
        clear hcell hkk hnew
        go_wp2_with fail
        go_roundw
        case rel =>
          refine ⟨i + 1, by go_num, hlt, (HH.out.1.set kk (.bool true)).congr (fun j hj => ?_), ext_set (Nat.le_refl _) _ HH.out.2⟩
          rw [List.take_add_one, HC.out.1]
          by_cases e : j = kk
          · subst e; simp
          · have : ¬ (j : Int) = (kk : Int) := by omega
            simp [e, this]
        case measure => simp [intOf] <;> omega
      · have hiN : i = N := by omega
        subst hiN
        go_wp2
        go_ret
        exact ⟨rfl, E2.out.trans (HH.out.2.mono (Nat.le_trans hs1 hs2))⟩

/- FRAME -/

set_option maxRecDepth 100000 in
theorem picksOrder_lifted (os : Os) (started : os.Started) (H : Type) (enc : TypeId × Value → H) :
    ReturnsInHanded {} Try.checked os 5 .any (Rows.picksOrderSpec.pre6 enc Try.prog Try.f5 Rows.picksOrderRow.domain false) (Rows.picksOrderSpec.post enc Try.prog Try.f5 false true false false) := by
  refine returnsInHanded_of_change (C := Try.checked) Try.own started (by kernel_rfl) Try.func5
    (ChangeSpec.witness6 (enc := enc) (C := Try.checked) false ⟨#[], #[.slice none 0 0, .int .i64 0], []⟩ 8 (by kernel_rfl) (by kernel_rfl) (by kernel_rfl) (by kernel_rfl)) ?_
  intro W base args ds gs before hval0 hW _ _
  have hval : ∀ (j : Nat) t v, Try.f5.params[j]? = some t → args[j]? = some v → Value.okWide Try.prog W .any base t v := hval0
  have hW' := hW
  obtain ⟨p, q, hA0, hV, rfl, _, _⟩ := hW
  have hA : DataW.TrodAll enc Try.prog W 0 (fun _ => true) true Try.f5.params.toList args.toList ds p := hA0
  rw [Try.params5] at hA hval
  obtain ⟨v0, v1, d0, d1, p0, p1, rfl, rfl, rfl, h0, h1⟩ := trodAll_two hA
  obtain ⟨q0, c0, L0, rfl, le0, m0, sx0, fx0, td0⟩ := open_ints (hval 0 22 v0 rfl rfl) h0
  obtain ⟨z1, rfl, iz1⟩ := open_num (hval 1 3 v1 rfl rfl) h1
  clear hA0 hval0
  refine (order_walk q0 c0 L0 z1 W le0 m0 sx0 fx0 iz1).mono fun e W' ⟨he, hb⟩ => ⟨_, he, post_law rfl hW' rfl rfl ?_ hb⟩
  intro t ht
  rw [Try.params5] at ht
  simp only [List.mem_cons, List.not_mem_nil, or_false] at ht
  rcases ht with rfl | rfl <;> exact ⟨by kernel_rfl, of_decide_eq_true (by kernel_rfl)⟩

theorem picksOrder_holds : Rows.PicksOrderSaid :=
  OpenClaim.holds_of_wide 5 Try.f5 rfl rfl rfl rfl rfl rfl rfl ⟨rfl, rfl, rfl, rfl, rfl⟩ rfl rfl rfl rfl rfl (by kernel_rfl) Try.func5 (by kernel_rfl)
    (of_decide_eq_true (by kernel_rfl)) (by unfold Func.isWrapper; rw [if_neg (of_decide_eq_false (by kernel_rfl))]; exact ⟨rfl, rfl⟩)
    (fun os started H enc _ => picksOrder_lifted os started H enc)

#print axioms picksOrder_holds

end Go.Proofs.Ytklfccdjmlmmgaa
