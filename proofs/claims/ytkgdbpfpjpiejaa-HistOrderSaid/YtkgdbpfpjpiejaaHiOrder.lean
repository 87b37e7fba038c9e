/- Of any histogram, value and comparison the law HistOrder answers true: with its steps the other way round all tells the same; for all arguments. -/
import Derived.Test.YtkgdbpfpjpiejaaHiE
import Derived.Test.YtkgdbpfpjpiejaaHiO
import Derived.Deep.RegionLaw
namespace Go.Proofs.Ytkgdbpfpjpiejaa
open Go.ChangeShapes Go.WideShapes Go.ChangeAt Go.RowKit Go.Joins Go.Deep
set_option linter.unusedVariables false
set_option linter.unusedSimpArgs false
set_option maxRecDepth 100000

theorem rev_take {l : List Stp} {m j n : Nat} {s : Stp} (hn : n = l.length) (h : n = m + j + 1) (hs : l[m]? = some s) : l.reverse.take (j + 1) = l.reverse.take j ++ [s] := by
  rw [List.take_add_one, List.getElem?_reverse (by omega), show l.length - 1 - j = m by omega, hs]
  rfl

set_option maxHeartbeats 16000000 in
theorem order_walk (op d nn : Int) (q : Option Addr) (l : List Stp) (c : Nat) (v : Val) (w : World) (hlm : l.length ≤ 9223372036854775807) (hr : l.length * 40 ≤ reachBytes) (h : StepsA w 0 w.heap.size q l) :
    Calls Try.prog 7 #[.agg #[.int .i64 d, .int .i64 nn, .slice q l.length c], v.v, .int .i64 op] w fun e w' => e = .returned (.bool true) ∧ Below w.heap.size w w' := by
  unfold reachBytes at hr
  have CP := Lib.hid fun (W : World) (hb : Below w.heap.size w W) => (part_any op d nn q l c v W hlm (StepsA.later h hb))
  have CM := Lib.hid fun (W : World) (hb : Below w.heap.size w W) => (many_any d nn q l c W hlm (StepsA.later h hb))
  have KP := Lib.hid fun (W : World) (q' : Option Addr) (c' : Nat) (hb : StepsA W 0 W.heap.size q' l.reverse) => (part_rev op d l v).1 ▸ (part_rev op d l v).2 ▸ List.length_reverse ▸ (part_any op d nn q' l.reverse c' v W (by rw [List.length_reverse]; exact hlm) hb)
  have KM := Lib.hid fun (W : World) (q' : Option Addr) (c' : Nat) (hb : StepsA W 0 W.heap.size q' l.reverse) => many_rev l ▸ List.length_reverse ▸ (many_any d nn q' l.reverse c' W (by rw [List.length_reverse]; exact hlm) hb)
  generalize partN op d l v = pn at *
  generalize partD op d l = pd at *
  generalize manyL l = mm at *
  obtain ⟨n, hn⟩ : ∃ n, n = l.length := ⟨_, rfl⟩
  rw [← hn] at CP CM KP KM hlm hr ⊢
  have HN := Lib.hid hn
  have H := Lib.hid h
  clear hn h
  obtain ⟨vk, vn, vs⟩ := v
  go_enter Try.func7, Try.ntmps7
  go_upto_region 1 with fail
  obtain ⟨b, hb⟩ : ∃ b, b = w.heap.size := ⟨_, rfl⟩
  obtain ⟨V, hV⟩ : ∃ V, V = (w.alloc (.cells #[.int .i64 d, .int .i64 nn, .slice q n c] 29)).alloc (.cells #[.int .i64 vk, .int .i64 vn, .string vs] 31) := ⟨_, rfl⟩
  rw [← hV]
  have HB := Lib.hid (show Below w.heap.size w V from by rw [hV]; exact ext_alloc (ext_alloc (ext_refl _) _) _)
  have l0 : b < V.heap.size := by rw [hV, hb]; simp
  have l1 : b + 1 < V.heap.size := by rw [hV, hb]; simp
  have k0 : V.cell? ⟨b, 0, none⟩ = some (.int .i64 d) := by rw [hV, hb]; simp [go_sem]
  have k1 : V.cell? ⟨b, 1, none⟩ = some (.int .i64 nn) := by rw [hV, hb]; simp [go_sem]
  have k2 : V.cell? ⟨b, 2, none⟩ = some (.slice q n c) := by rw [hV, hb]; simp [go_sem]
  have k3 : V.cell? ⟨b + 1, 0, none⟩ = some (.int .i64 vk) := by rw [hV, hb]; simp [go_sem]
  have k4 : V.cell? ⟨b + 1, 1, none⟩ = some (.int .i64 vn) := by rw [hV, hb]; simp [go_sem]
  have k5 : V.cell? ⟨b + 1, 2, none⟩ = some (.string vs) := by rw [hV, hb]; simp [go_sem]
  rw [← hb]
  clear hV hb
  go_upto_region 2 with (go_at_call 9; refine (examples13_any _).mono ?_; rintro e W1 ⟨rfl, hb⟩)
  replace k0 := (hb.cell (p := ⟨b, _, none⟩) l0).trans k0
  replace k1 := (hb.cell (p := ⟨b, _, none⟩) l0).trans k1
  replace k2 := (hb.cell (p := ⟨b, _, none⟩) l0).trans k2
  replace k3 := (hb.cell (p := ⟨b + 1, _, none⟩) l1).trans k3
  replace k4 := (hb.cell (p := ⟨b + 1, _, none⟩) l1).trans k4
  replace k5 := (hb.cell (p := ⟨b + 1, _, none⟩) l1).trans k5
  replace l0 := Nat.lt_of_lt_of_le l0 hb.size
  replace l1 := Nat.lt_of_lt_of_le l1 hb.size
  replace HB := Lib.hid (HB.out.trans (hb.mono HB.out.size))
  clear hb
  go_wp2_with fail
  obtain ⟨g, hg⟩ : ∃ g, g = W1.heap.size := ⟨_, rfl⟩
  have hgb : b + 1 < g := by rw [hg]; exact l1
  have HX0 := Lib.hid (show HBox W1 (W1.alloc (.cells #[.int .i64 d, .int .i64 nn, .slice none 0 0] 29)) g d nn (.slice none 0 0) [] by rw [hg]; exact HBox.new d nn)
  rw [← hg]
  have HWG := Lib.hid hg
  clear hg
  go_loopw [9] (fun vi wr => ∃ (j : Nat) (z : Int) (vt : Value), vi = .int .i64 z ∧ j ≤ n ∧ Hid (z = (n : Int) - 1 - (j : Int)) ∧ Hid (HBox W1 wr g d nn vt (l.reverse.take j))) (fun vi _ => (intOf vi + 1).toNat)
  case atStart => exact ⟨0, _, _, rfl, Nat.zero_le _, by show _ = _; omega, HX0.out⟩
  case round =>
    obtain ⟨j, z, vt, rfl, hj, hz, hX⟩ := hrel
    obtain ⟨X, hXX⟩ : ∃ X, X = wr := ⟨_, rfl⟩
    rw [← hXX] at hX
    rw [← hXX]
    have HX := Lib.hid hX.out
    have HZ := Lib.hid hz.out
    clear hX hz hXX
    have x2 := (HX.out.bel.cell (p := ⟨b, 2, none⟩) (show b < g by omega)).trans k2
    have xl : b < X.heap.size := Nat.lt_of_lt_of_le l0 HX.out.bel.size
    obtain ⟨qt, ct, hvt, -, -, -⟩ := HX.out.own.read
    have hlen : (l.reverse.take j).length = j := by rw [List.length_take, List.length_reverse, ← HN.out]; omega
    rw [hlen] at hvt
    subst hvt
    have g2 := HX.out.c2
    have gl := HX.out.lt
    have gf := HX.out.fr
    have HLEN := Lib.hid hlen
    clear hlen
    by_cases hlt : j < n
    · obtain ⟨m, hm⟩ : ∃ m, n = m + j + 1 := ⟨n - 1 - j, by omega⟩
      have hz1 : z = (m : Int) := by rw [HZ.out]; omega
      subst hz1
      have hml : m < l.length := by rw [← HN.out]; omega
      have hmn : m < n := by omega
      have BX := Lib.hid (show Below w.heap.size w X from HB.out.trans (HX.out.bel.mono (by rw [HWG.out]; exact HB.out.size)))
      obtain ⟨e, off, hq, -, he, ⟨hc0, hc1, hc2⟩, hc3⟩ := ArrA.at_ (StepsA.same H.out (Same.of BX.out (Nat.le_refl _))) hml
      subst hq
      obtain ⟨s, hs⟩ : ∃ s, s = l[m] := ⟨_, rfl⟩
      rw [← hs] at hc0 hc1 hc2 hc3
      have HS := Lib.hid (show l[m]? = some s by rw [hs, List.getElem?_eq_getElem hml])
      have hel : e < X.heap.size := Nat.lt_of_lt_of_le he BX.out.size
      have HM := Lib.hid hm
      clear hs he hm
      obtain ⟨⟨xk, xn, xs⟩, sm⟩ := s
      simp only at hc0 hc1 hc2 hc3
      have hwm : IntKind.i64.wrap ((m : Int) - 1) = (m : Int) - 1 := by rw [IntKind.wrap_i64]; omega
      have HO := Lib.hid HX.out.own
      go_wp2_with fail
      go_region_law (refine step_append_flat rfl _ _ 27 39 rfl Try.underlying27 _ 40 Try.infoStep rfl (by omega) sCell_len sCell_one (g + 1) (.slice qt j ct) (l.reverse.take j) rfl (HO.out.later (by (repeat (first | exact ext_refl _ | assumption | (refine ext_alloc ?_ _) | (refine ext_drewN ?_ _) | refine ext_drew ?_ | (refine ext_set (by first | (simp; done) | (simp; omega)) _ ?_) | (refine ext_trans ?_ (by assumption)))))) _ 1 1 [⟨⟨xk, xn, xs⟩, sm⟩] rfl rfl 0 _ (one_block (W := X) sCell_len 39 #[.int .i64 xk, .int .i64 xn, .string xs, .int .i64 sm] ⟨⟨xk, xn, xs⟩, sm⟩ rfl _ rfl) (by rw [HLEN.out]; unfold maxLen; simp; omega) (by rw [HLEN.out]; simp; omega) (by simp; omega) ?_; intro qa ca wA OA bA oA hat; rw [show (l.reverse.take j ++ [(⟨⟨xk, xn, xs⟩, sm⟩ : Stp)]).length = j + 1 from by rw [List.length_append, HLEN.out]; rfl] at OA ⊢; have bX := Lib.hid ((show Below (g + 1) X _ from Below.mono (by (repeat (first | exact ext_refl _ | assumption | (refine ext_alloc ?_ _) | (refine ext_drewN ?_ _) | refine ext_drew ?_ | (refine ext_set (by first | (simp; done) | (simp; omega)) _ ?_) | (refine ext_trans ?_ (by assumption))))) gl).trans bA); have t1 := (bX.out.cell (p := ⟨g, 2, none⟩) (Nat.lt_succ_self _)).trans g2; have t2 := (bX.out.frozen (p := ⟨g, 2, none⟩) (Nat.lt_succ_self _)).trans gf; have t3 := Nat.lt_of_lt_of_le gl bX.out.size; have HWA := Lib.hid (HX.out.put bX.out OA); clear OA bA oA hat)
      all_goals (clear hc0 hc1 hc2 hc3; go_wp2_with fail)
      all_goals go_roundw
      all_goals first
        | exact ⟨j + 1, (m : Int) - 1, .slice qa (j + 1) ca, rfl, hlt, (by have := HM.out; show (m : Int) - 1 = (n : Int) - 1 - ((j + 1 : Nat) : Int); omega), (by show HBox W1 _ g d nn _ _; rw [rev_take HN.out HM.out HS.out]; exact HWA.out)⟩
        | (simp [intOf] <;> omega)
    · obtain rfl : j = n := by omega
      have hz1 : z = -1 := by rw [HZ.out]; omega
      subst hz1
      have hfull : l.reverse.take j = l.reverse := List.take_of_length_le (by rw [List.length_reverse, ← HN.out]; exact Nat.le_refl _)
      have HY := HX.out
      rw [hfull] at HY
      have HST := Lib.hid (show StepsA X 0 X.heap.size qt l.reverse from by
        obtain ⟨q2, c2, e, -, -, st⟩ := HY.own.read
        simp only [Value.slice.injEq] at e
        rw [e.1]
        exact st)
      have HB2 := Lib.hid (show Below w.heap.size w X from HB.out.trans (HX.out.bel.mono (by rw [HWG.out]; exact HB.out.size)))
      replace k0 := (HX.out.bel.cell (p := ⟨b, _, none⟩) (show b < g by omega)).trans k0
      replace k1 := (HX.out.bel.cell (p := ⟨b, _, none⟩) (show b < g by omega)).trans k1
      replace k3 := (HX.out.bel.cell (p := ⟨b + 1, _, none⟩) hgb).trans k3
      replace k4 := (HX.out.bel.cell (p := ⟨b + 1, _, none⟩) hgb).trans k4
      replace k5 := (HX.out.bel.cell (p := ⟨b + 1, _, none⟩) hgb).trans k5
      have k6 := HX.out.c0
      have k7 := HX.out.c1
      have xl1 : b + 1 < X.heap.size := by omega
      have HBX := Lib.hid (Below.refl X.heap.size X)
      clear k2 l0 l1 gf HX HY hfull HZ HX0 HB HWG HLEN hgb hj
      go_upto_region 9 with (go_at_call 18; refine (CP.out _ HB2.out).mono ?_; rintro e W2 ⟨rfl, hb⟩)
      replace k0 := (hb.cell (p := ⟨b, _, none⟩) xl).trans k0
      replace k1 := (hb.cell (p := ⟨b, _, none⟩) xl).trans k1
      replace x2 := (hb.cell (p := ⟨b, _, none⟩) xl).trans x2
      replace k3 := (hb.cell (p := ⟨b + 1, _, none⟩) xl1).trans k3
      replace k4 := (hb.cell (p := ⟨b + 1, _, none⟩) xl1).trans k4
      replace k5 := (hb.cell (p := ⟨b + 1, _, none⟩) xl1).trans k5
      replace k6 := (hb.cell (p := ⟨g, _, none⟩) gl).trans k6
      replace k7 := (hb.cell (p := ⟨g, _, none⟩) gl).trans k7
      replace g2 := (hb.cell (p := ⟨g, _, none⟩) gl).trans g2
      replace xl := Nat.lt_of_lt_of_le xl hb.size
      replace xl1 := Nat.lt_of_lt_of_le xl1 hb.size
      replace gl := Nat.lt_of_lt_of_le gl hb.size
      replace HBX := Lib.hid (HBX.out.trans (hb.mono HBX.out.size))
      replace HB2 := Lib.hid (HB2.out.trans (hb.mono HB2.out.size))
      clear hb
      go_upto_region 10 with (go_at_call 18; refine (KP.out _ qt ct (StepsA.later HST.out HBX.out)).mono ?_; rintro e W3 ⟨rfl, hb⟩)
      replace k0 := (hb.cell (p := ⟨b, _, none⟩) xl).trans k0
      replace k1 := (hb.cell (p := ⟨b, _, none⟩) xl).trans k1
      replace x2 := (hb.cell (p := ⟨b, _, none⟩) xl).trans x2
      replace k3 := (hb.cell (p := ⟨b + 1, _, none⟩) xl1).trans k3
      replace k4 := (hb.cell (p := ⟨b + 1, _, none⟩) xl1).trans k4
      replace k5 := (hb.cell (p := ⟨b + 1, _, none⟩) xl1).trans k5
      replace k6 := (hb.cell (p := ⟨g, _, none⟩) gl).trans k6
      replace k7 := (hb.cell (p := ⟨g, _, none⟩) gl).trans k7
      replace g2 := (hb.cell (p := ⟨g, _, none⟩) gl).trans g2
      replace xl := Nat.lt_of_lt_of_le xl hb.size
      replace xl1 := Nat.lt_of_lt_of_le xl1 hb.size
      replace gl := Nat.lt_of_lt_of_le gl hb.size
      replace HBX := Lib.hid (HBX.out.trans (hb.mono HBX.out.size))
      replace HB2 := Lib.hid (HB2.out.trans (hb.mono HB2.out.size))
      clear hb
      have is := After.some W3
      have qk0 := fun (z : After W3) => (z.cell (b) _ xl).trans k0
      have qk1 := fun (z : After W3) => (z.cell (b) _ xl).trans k1
      have qx2 := fun (z : After W3) => (z.cell (b) _ xl).trans x2
      have qk3 := fun (z : After W3) => (z.cell (b + 1) _ xl1).trans k3
      have qk4 := fun (z : After W3) => (z.cell (b + 1) _ xl1).trans k4
      have qk5 := fun (z : After W3) => (z.cell (b + 1) _ xl1).trans k5
      have qk6 := fun (z : After W3) => (z.cell (g) _ gl).trans k6
      have qk7 := fun (z : After W3) => (z.cell (g) _ gl).trans k7
      have qg2 := fun (z : After W3) => (z.cell (g) _ gl).trans g2
      have DM : ∀ z : After W3, Calls Try.prog 20 #[.agg #[.int .i64 d, .int .i64 nn, .slice q j c]] z.W fun e w' => e = .returned (.int .i64 mm) ∧ Below z.W.heap.size z.W w' := fun z => CM.out z.W (HB2.out.trans (z.below.mono HB2.out.size))
      have DN : ∀ z : After W3, Calls Try.prog 20 #[.agg #[.int .i64 d, .int .i64 nn, .slice qt j ct]] z.W fun e w' => e = .returned (.int .i64 mm) ∧ Below z.W.heap.size z.W w' := fun z => KM.out z.W qt ct (StepsA.later HST.out (HBX.out.trans (z.below.mono HBX.out.size)))
      refine wp_region_after (by kernel_rfl) (by kernel_rfl) ?_
      repeat (quiet_step ((go_at_call 20; first | (with_reducible exact calls_after (DM _)) | (with_reducible exact calls_after (DN _)))))
      refine wpQuiet_nil ?_
      intro W4 hw
      obtain ⟨⟨W5, hb⟩, rfl⟩ := hw
      have HB4 := HB2.out.trans (hb.mono HB2.out.size)
      clear qk0 k0 qk1 k1 qx2 x2 qk3 k3 qk4 k4 qk5 k5 qk6 k6 qk7 k7 qg2 g2 DM DN is hb HB2 HBX CP CM KP KM HST
      go_wp2_with fail
      go_ret
      exact ⟨by simp, HB4⟩

/- FRAME -/

set_option maxRecDepth 100000 in
theorem histOrder_lifted (os : Os) (started : os.Started) (H : Type) (enc : TypeId × Value → H) :
    ReturnsInHanded {} Try.checked os 7 .any (Rows.histOrderSpec.pre6 enc Try.prog Try.f7 Rows.histOrderRow.domain false) (Rows.histOrderSpec.post enc Try.prog Try.f7 false true false false) := by
  refine returnsInHanded_of_change_sized (C := Try.checked) Try.own started (by kernel_rfl) Try.func7
    (ChangeSpec.witness6 (enc := enc) (C := Try.checked) false ⟨#[], #[.agg #[.int .i64 0, .int .i64 0, .slice none 0 0], .agg #[.int .i64 0, .int .i64 0, .string ⟨#[]⟩], .int .i64 0], []⟩ 8 (by kernel_rfl) (by kernel_rfl) (by kernel_rfl) (by kernel_rfl)) ?_
  intro W base args ds gs before hval0 hW _ hsz _
  have hval : ∀ (j : Nat) t v, Try.f7.params[j]? = some t → args[j]? = some v → Value.okWide Try.prog W .any base t v := hval0
  have hW' := hW
  obtain ⟨p, q, hA0, hV, rfl, _, _⟩ := hW
  have hA : DataW.TrodAll enc Try.prog W 0 (fun _ => true) true Try.f7.params.toList args.toList ds p := hA0
  rw [Try.params7] at hA hval hsz
  obtain ⟨v0, v1, v2, d0, d1, d2, p0, p1, p2, rfl, rfl, rfl, h0, h1, h2⟩ := trodAll_three hA
  obtain ⟨x1, rfl, fx1⟩ := open_val (hval 1 31 v1 rfl rfl) h1
  obtain ⟨z2, rfl, iz2⟩ := open_num (hval 2 3 v2 rfl rfl) h2
  obtain ⟨d0, n0, q0, L0, c0, rfl, le0, m0, r0, tx0, fx0⟩ := open_hist (hval 0 29 v0 rfl rfl) h0 (fun n hn => of_decide_eq_true (List.all_eq_true.1 hsz _ (DataW.weights_mem_each (j := 0) (t := 29) rfl rfl n hn)))
  clear hA0 hval0
  refine (order_walk z2 d0 n0 q0 L0 c0 x1 W (Nat.le_trans le0 m0) r0 tx0).mono fun e W' ⟨he, hb⟩ => ⟨_, he, post_law rfl hW' rfl rfl ?_ hb⟩
  intro t ht
  rw [Try.params7] at ht
  simp only [List.mem_cons, List.not_mem_nil, or_false] at ht
  rcases ht with rfl | rfl | rfl <;> exact ⟨by kernel_rfl, of_decide_eq_true (by kernel_rfl)⟩

theorem histOrder_holds : Rows.HistOrderSaid :=
  OpenClaim.holds_of_wide 7 Try.f7 rfl rfl rfl rfl rfl rfl rfl ⟨rfl, rfl, rfl, rfl, rfl⟩ rfl rfl rfl rfl rfl (by kernel_rfl) Try.func7 (by kernel_rfl)
    (of_decide_eq_true (by kernel_rfl)) (by unfold Func.isWrapper; rw [if_neg (of_decide_eq_false (by kernel_rfl))]; exact ⟨rfl, rfl⟩)
    (fun os started H enc _ => histOrder_lifted os started H enc)

#print axioms histOrder_holds

end Go.Proofs.Ytkgdbpfpjpiejaa
