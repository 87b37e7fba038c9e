/- Of any histogram, value and comparison the law HistParts answers true: how many there are, how many lie below, which part is let through are what the reference says; for all arguments. -/
import Derived.Test.YtkgdbpfpjpiejaaHiD
import Derived.Test.YtkgdbpfpjpiejaaHiO
namespace Go.Proofs.Ytkgdbpfpjpiejaa
open Go.ChangeShapes Go.WideShapes Go.ChangeAt Go.RowKit Go.Joins Go.Deep
set_option linter.unusedVariables false
set_option linter.unusedSimpArgs false
set_option maxRecDepth 100000

set_option maxHeartbeats 8000000 in
theorem parts_walk (op d nn : Int) (q : Option Addr) (l : List Stp) (c : Nat) (v : Val) (too : Bool) (w : World) (hlm : l.length ≤ 9223372036854775807) (h : StepsA w 0 w.heap.size q l) :
    Calls Try.prog 4 #[.int .i64 op, .agg #[.int .i64 d, .int .i64 nn, .slice q l.length c], v.v, .bool too] w fun e w' => e = .returned (.bool true) ∧ Below w.heap.size w w' := by
  have CP := Lib.hid fun (W : World) (hb : Below w.heap.size w W) => (part_any op d nn q l c v W hlm (StepsA.later h hb))
  have CR := Lib.hid fun (W : World) (hb : Below w.heap.size w W) => (rpart_any op d nn q l c v W hlm (StepsA.later h hb))
  have CM := Lib.hid fun (W : World) (hb : Below w.heap.size w W) => (many_any d nn q l c W hlm (StepsA.later h hb))
  have CN := Lib.hid fun (W : World) (hb : Below w.heap.size w W) => (rmany_any d nn q l c W hlm (StepsA.later h hb))
  have CB := Lib.hid fun (W : World) (hb : Below w.heap.size w W) => (below_any d nn q l c v too W hlm (StepsA.later h hb))
  have CC := Lib.hid fun (W : World) (hb : Below w.heap.size w W) => (rbelow_any d nn q l c v too W hlm (StepsA.later h hb))
  generalize partN op d l v = pn at *
  generalize partD op d l = pd at *
  generalize manyL l = mm at *
  generalize belowL v too l = bb at *
  obtain ⟨n, hn⟩ : ∃ n, n = l.length := ⟨_, rfl⟩
  rw [← hn] at CP CR CM CN CB CC hlm ⊢
  clear hn h
  obtain ⟨vk, vn, vs⟩ := v
  go_enter Try.func4, Try.ntmps4
  go_upto_region 1 with fail
  obtain ⟨b, hb⟩ : ∃ b, b = w.heap.size := ⟨_, rfl⟩
  obtain ⟨V, hV⟩ : ∃ V, V = (w.alloc (.cells #[.int .i64 d, .int .i64 nn, .slice q n c] 29)).alloc (.cells #[.int .i64 vk, .int .i64 vn, .string vs] 31) := ⟨_, rfl⟩
  rw [← hV]
  have HB := Lib.hid (show Below w.heap.size w V from by rw [hV]; exact ext_alloc (ext_alloc (ext_refl _) _) _)
  have l0 : b < V.heap.size := by rw [hV, hb]; simp
  have l1 : b + 1 < V.heap.size := by rw [hV, hb]; simp
  have k0 : V.cell? ⟨b, 0, none⟩ = some (.int .i64 d) := by rw [hV, hb]; simp [go_sem]
  have k1 : V.cell? ⟨b, 1, none⟩ = some (.int .i64 nn) := by rw [hV, hb]; simp [go_sem]
  have k2 : V.cell? ⟨b, 2, none⟩ = some (.slice q n c) := by rw [hV, hb]; simp [go_sem]
  have k3 : V.cell? ⟨b + 1, 0, none⟩ = some (.int .i64 vk) := by rw [hV, hb]; simp [go_sem]
  have k4 : V.cell? ⟨b + 1, 1, none⟩ = some (.int .i64 vn) := by rw [hV, hb]; simp [go_sem]
  have k5 : V.cell? ⟨b + 1, 2, none⟩ = some (.string vs) := by rw [hV, hb]; simp [go_sem]
  rw [← hb]
  clear hV hb
  go_upto_region 2 with (go_at_call 9; refine (examples13_any _).mono ?_; rintro e W1 ⟨rfl, hb⟩)
  replace k0 := (hb.cell (p := ⟨b, _, none⟩) l0).trans k0
  replace k1 := (hb.cell (p := ⟨b, _, none⟩) l0).trans k1
  replace k2 := (hb.cell (p := ⟨b, _, none⟩) l0).trans k2
  replace k3 := (hb.cell (p := ⟨b + 1, _, none⟩) l1).trans k3
  replace k4 := (hb.cell (p := ⟨b + 1, _, none⟩) l1).trans k4
  replace k5 := (hb.cell (p := ⟨b + 1, _, none⟩) l1).trans k5
  replace l0 := Nat.lt_of_lt_of_le l0 hb.size
  replace l1 := Nat.lt_of_lt_of_le l1 hb.size
  replace HB := Lib.hid (HB.out.trans (hb.mono HB.out.size))
  clear hb
  go_upto_region 3 with (go_at_call 18; refine (CP.out _ HB.out).mono ?_; rintro e W2 ⟨rfl, hb⟩)
  replace k0 := (hb.cell (p := ⟨b, _, none⟩) l0).trans k0
  replace k1 := (hb.cell (p := ⟨b, _, none⟩) l0).trans k1
  replace k2 := (hb.cell (p := ⟨b, _, none⟩) l0).trans k2
  replace k3 := (hb.cell (p := ⟨b + 1, _, none⟩) l1).trans k3
  replace k4 := (hb.cell (p := ⟨b + 1, _, none⟩) l1).trans k4
  replace k5 := (hb.cell (p := ⟨b + 1, _, none⟩) l1).trans k5
  replace l0 := Nat.lt_of_lt_of_le l0 hb.size
  replace l1 := Nat.lt_of_lt_of_le l1 hb.size
  replace HB := Lib.hid (HB.out.trans (hb.mono HB.out.size))
  clear hb
  go_upto_region 4 with (go_at_call 19; refine (CR.out _ HB.out).mono ?_; rintro e W3 ⟨rfl, hb⟩)
  replace k0 := (hb.cell (p := ⟨b, _, none⟩) l0).trans k0
  replace k1 := (hb.cell (p := ⟨b, _, none⟩) l0).trans k1
  replace k2 := (hb.cell (p := ⟨b, _, none⟩) l0).trans k2
  replace k3 := (hb.cell (p := ⟨b + 1, _, none⟩) l1).trans k3
  replace k4 := (hb.cell (p := ⟨b + 1, _, none⟩) l1).trans k4
  replace k5 := (hb.cell (p := ⟨b + 1, _, none⟩) l1).trans k5
  replace l0 := Nat.lt_of_lt_of_le l0 hb.size
  replace l1 := Nat.lt_of_lt_of_le l1 hb.size
  replace HB := Lib.hid (HB.out.trans (hb.mono HB.out.size))
  clear hb
  have is := After.some W3
  have q0 := fun (z : After W3) => (z.cell b _ l0).trans k0
  have q1 := fun (z : After W3) => (z.cell b _ l0).trans k1
  have q2 := fun (z : After W3) => (z.cell b _ l0).trans k2
  have q3 := fun (z : After W3) => (z.cell (b + 1) _ l1).trans k3
  have q4 := fun (z : After W3) => (z.cell (b + 1) _ l1).trans k4
  have q5 := fun (z : After W3) => (z.cell (b + 1) _ l1).trans k5
  have DM : ∀ z : After W3, Calls Try.prog 20 #[.agg #[.int .i64 d, .int .i64 nn, .slice q n c]] z.W fun e w' => e = .returned (.int .i64 mm) ∧ Below z.W.heap.size z.W w' := fun z => CM.out z.W (HB.out.trans (z.below.mono HB.out.size))
  have DN : ∀ z : After W3, Calls Try.prog 21 #[.agg #[.int .i64 d, .int .i64 nn, .slice q n c]] z.W fun e w' => e = .returned (.int .i64 mm) ∧ Below z.W.heap.size z.W w' := fun z => CN.out z.W (HB.out.trans (z.below.mono HB.out.size))
  have DB : ∀ z : After W3, Calls Try.prog 22 #[.agg #[.int .i64 d, .int .i64 nn, .slice q n c], .agg #[.int .i64 vk, .int .i64 vn, .string vs], .bool too] z.W fun e w' => e = .returned (.int .i64 bb) ∧ Below z.W.heap.size z.W w' := fun z => CB.out z.W (HB.out.trans (z.below.mono HB.out.size))
  have DC : ∀ z : After W3, Calls Try.prog 23 #[.agg #[.int .i64 d, .int .i64 nn, .slice q n c], .agg #[.int .i64 vk, .int .i64 vn, .string vs], .bool too] z.W fun e w' => e = .returned (.int .i64 bb) ∧ Below z.W.heap.size z.W w' := fun z => CC.out z.W (HB.out.trans (z.below.mono HB.out.size))
  refine wp_region_after (by kernel_rfl) (by kernel_rfl) ?_
  repeat (quiet_step ((first | (go_at_call 20; exact calls_after (DM _)) | (go_at_call 21; exact calls_after (DN _)) | (go_at_call 22; exact calls_after (DB _)) | (go_at_call 23; exact calls_after (DC _)))))
  refine wpQuiet_nil ?_
  intro W4 hw
  obtain ⟨⟨W5, hb⟩, rfl⟩ := hw
  have HB4 := HB.out.trans (hb.mono HB.out.size)
  clear q0 q1 q2 q3 q4 q5 k0 k1 k2 k3 k4 k5 DM DN DB DC is hb HB CP CR CM CN CB CC
  go_wp2_with fail
  go_ret
  exact ⟨by simp, HB4⟩

/- FRAME -/

set_option maxRecDepth 100000 in
theorem histParts_lifted (os : Os) (started : os.Started) (H : Type) (enc : TypeId × Value → H) :
    ReturnsInHanded {} Try.checked os 4 .any (Rows.histPartsSpec.pre6 enc Try.prog Try.f4 Rows.histPartsRow.domain false) (Rows.histPartsSpec.post enc Try.prog Try.f4 false true false false) := by
  refine returnsInHanded_of_change_sized (C := Try.checked) Try.own started (by kernel_rfl) Try.func4
    (ChangeSpec.witness6 (enc := enc) (C := Try.checked) false ⟨#[], #[.int .i64 0, .agg #[.int .i64 0, .int .i64 0, .slice none 0 0], .agg #[.int .i64 0, .int .i64 0, .string ⟨#[]⟩], .bool false], []⟩ 8 (by kernel_rfl) (by kernel_rfl) (by kernel_rfl) (by kernel_rfl)) ?_
  intro W base args ds gs before hval0 hW _ hsz _
  have hval : ∀ (j : Nat) t v, Try.f4.params[j]? = some t → args[j]? = some v → Value.okWide Try.prog W .any base t v := hval0
  have hW' := hW
  obtain ⟨p, q, hA0, hV, rfl, _, _⟩ := hW
  have hA : DataW.TrodAll enc Try.prog W 0 (fun _ => true) true Try.f4.params.toList args.toList ds p := hA0
  rw [Try.params4] at hA hval hsz
  obtain ⟨v0, v1, v2, v3, d0, d1, d2, d3, p0, p1, p2, p3, rfl, rfl, rfl, h0, h1, h2, h3⟩ := trodAll_four hA
  obtain ⟨z0, rfl, iz0⟩ := open_num (hval 0 3 v0 rfl rfl) h0
  obtain ⟨x2, rfl, fx2⟩ := open_val (hval 2 31 v2 rfl rfl) h2
  obtain ⟨t3, rfl⟩ := open_bool (hval 3 4 v3 rfl rfl) h3
  obtain ⟨d1, n1, q1, L1, c1, rfl, le1, m1, r1, tx1, fx1⟩ := open_hist (hval 1 29 v1 rfl rfl) h1 (fun n hn => of_decide_eq_true (List.all_eq_true.1 hsz _ (DataW.weights_mem_each (j := 1) (t := 29) rfl rfl n hn)))
  clear hA0 hval0
  refine (parts_walk z0 d1 n1 q1 L1 c1 x2 t3 W (Nat.le_trans le1 m1) tx1).mono fun e W' ⟨he, hb⟩ => ⟨_, he, post_law rfl hW' rfl rfl ?_ hb⟩
  intro t ht
  rw [Try.params4] at ht
  simp only [List.mem_cons, List.not_mem_nil, or_false] at ht
  rcases ht with rfl | rfl | rfl | rfl <;> exact ⟨by kernel_rfl, of_decide_eq_true (by kernel_rfl)⟩

theorem histParts_holds : Rows.HistPartsSaid :=
  OpenClaim.holds_of_wide 4 Try.f4 rfl rfl rfl rfl rfl rfl rfl ⟨rfl, rfl, rfl, rfl, rfl⟩ rfl rfl rfl rfl rfl (by kernel_rfl) Try.func4 (by kernel_rfl)
    (of_decide_eq_true (by kernel_rfl)) (by unfold Func.isWrapper; rw [if_neg (of_decide_eq_false (by kernel_rfl))]; exact ⟨rfl, rfl⟩)
    (fun os started H enc _ => histParts_lifted os started H enc)

#print axioms histParts_holds

end Go.Proofs.Ytkgdbpfpjpiejaa
