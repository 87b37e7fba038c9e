/- ExprApart: the walk. -/
import Derived.Test.YthdnbcdcfaocmaaDoorEgB
import Derived.Test.YthdnbcdcfaocmaaDoorDvD
namespace Go.Proofs.YthdnbcdcfaocmaaDoor
open Go.RowKit
set_option maxRecDepth 100000

theorem bsB_list (l : Bs) : (bsB l).toList = l := by rw [ByteArray.toList_eq]
theorem text_eq {x y : Ex} (hx : rightE x = true) (hy : rightE y = true) : ((bsB (textR x).1).toList == (bsB (textR y).1).toList) = sameE x y := by
  have h := print_iff (right_iff.1 hx).1 (right_iff.1 hy).1
  unfold textR
  rw [if_pos hx, if_pos hy, bsB_list, bsB_list, Bool.eq_iff_iff, beq_iff_eq]
  exact h

set_option maxHeartbeats 8000000 in
theorem exprApart_walk (x y : Ex) (cs ds : List Value) (w : World) (hx : ExM w x cs) (hy : ExM w y ds) (hG : GE w) : Calls Tryd.prog 7 #[.agg cs.toArray, .agg ds.toArray] w fun e w' => e = .returned (.bool true) ∧ Below w.heap.size w w' := by
  have HX := Lib.hid hx
  have HY := Lib.hid hy
  have HG := Lib.hid hG
  obtain ⟨opa, va, rela, cola, na, sa, la⟩ := x
  obtain ⟨opb, vb, relb, colb, nb, sb, lb⟩ := y
  rw [ExM.iff] at hx hy
  obtain ⟨-, qa, ca, rfl, -, -⟩ := hx
  obtain ⟨-, qb, cb, rfl, -, -⟩ := hy
  obtain ⟨lena, hla⟩ : ∃ len, len = la.length := ⟨_, rfl⟩
  obtain ⟨lenb, hlb⟩ : ∃ len, len = lb.length := ⟨_, rfl⟩
  rw [← hla] at HX ⊢
  rw [← hlb] at HY ⊢
  clear hla hlb hG
  have E0 := EB.new w opa va rela cola na sa qa lena ca 26
  obtain ⟨W1, hW1⟩ : ∃ W, W = w.alloc (.cells (exCells opa va rela cola na sa qa lena ca).toArray 26) := ⟨_, rfl⟩
  rw [← hW1] at E0
  have z1 : W1.heap.size = w.heap.size + 1 := by rw [hW1]; simp
  have F0 := EB.new W1 opb vb relb colb nb sb qb lenb cb 26
  obtain ⟨W, hW⟩ : ∃ W, W = W1.alloc (.cells (exCells opb vb relb colb nb sb qb lenb cb).toArray 26) := ⟨_, rfl⟩
  rw [← hW, z1] at F0
  have b1 : Below W1.heap.size W1 W := by rw [hW]; (repeat (first | exact ext_refl _ | assumption | (refine ext_alloc ?_ _) | (refine ext_drewN ?_ _) | refine ext_drew ?_ | (refine ext_set (by first | (simp; done) | (simp; omega)) _ ?_) | (refine ext_trans ?_ (by assumption))))
  have b : Below w.heap.size w W := by rw [hW, hW1]; (repeat (first | exact ext_refl _ | assumption | (refine ext_alloc ?_ _) | (refine ext_drewN ?_ _) | refine ext_drew ?_ | (refine ext_set (by first | (simp; done) | (simp; omega)) _ ?_) | (refine ext_trans ?_ (by assumption))))
  have HWW := Lib.hid (show W = (w.alloc (.cells (exCells opa va rela cola na sa qa lena ca).toArray 26)).alloc (.cells (exCells opb vb relb colb nb sb qb lenb cb).toArray 26) by rw [hW, hW1])
  have HA := Lib.hid (E0.on b1)
  have HB := Lib.hid F0
  have BW := Lib.hid b
  clear hW hW1 E0 F0 z1 b1 b
  go_enter Tryd.func7, Tryd.ntmps7
  go_upto_region 1 with fail
  rw [← HWW.out]
  clear HWW
  obtain ⟨g, hg⟩ : ∃ g, g = w.heap.size := ⟨_, rfl⟩
  rw [← hg] at HA HB ⊢
  clear hg
  go_wp2_with fail
  refine (examples_any W (HG.out.on BW.out)).mono ?_
  rintro e W2 ⟨rfl, hb2⟩
  have BW2 := Lib.hid (BW.out.trans (hb2.mono BW.out.size))
  have HA2 := Lib.hid (HA.out.on hb2)
  have HB2 := Lib.hid (HB.out.on hb2)
  clear hb2 BW HA HB
  obtain ⟨lA, a0, a1, a2, a3, a4, a5, a6, a7, a8⟩ := HA2.out
  go_wp2_with fail
  refine (dtext_any (.mk opa va rela cola na sa la) _ W2 (ExM.ext BW2.out _ _ HX.out) (HG.out.on BW2.out)).mono ?_
  rintro e W3 ⟨rfl, hb3⟩
  have BW3 := Lib.hid (BW2.out.trans (hb3.mono BW2.out.size))
  have HA3 := Lib.hid (HA2.out.on hb3)
  have HB3 := Lib.hid (HB2.out.on hb3)
  clear hb3 BW2 HA2 HB2 lA a0 a1 a2 a3 a4 a5 a6 a7 a8
  obtain ⟨lB, b0, b1, b2, b3, b4, b5, b6, b7, b8⟩ := HB3.out
  go_wp2_with fail
  refine (dtext_any (.mk opb vb relb colb nb sb lb) _ W3 (ExM.ext BW3.out _ _ HY.out) (HG.out.on BW3.out)).mono ?_
  rintro e W4 ⟨rfl, hb4⟩
  have BW4 := Lib.hid (BW3.out.trans (hb4.mono BW3.out.size))
  have HA4 := Lib.hid (HA3.out.on hb4)
  have HB4 := Lib.hid (HB3.out.on hb4)
  clear hb4 BW3 HA3 HB3 lB b0 b1 b2 b3 b4 b5 b6 b7 b8
  have HTE := Lib.hid (fun h1 h2 => text_eq (x := (.mk opa va rela cola na sa la)) (y := (.mk opb vb relb colb nb sb lb)) h1 h2)
  have HTA := Lib.hid (show (textR (.mk opa va rela cola na sa la)).2 = if rightE (.mk opa va rela cola na sa la) = true then 0 else 1 by unfold textR; split <;> rfl)
  have HTB := Lib.hid (show (textR (.mk opb vb relb colb nb sb lb)).2 = if rightE (.mk opb vb relb colb nb sb lb) = true then 0 else 1 by unfold textR; split <;> rfl)
  obtain ⟨S, hS⟩ : ∃ S, S = bsB (textR (.mk opa va rela cola na sa la)).1 := ⟨_, rfl⟩
  obtain ⟨U, hU⟩ : ∃ S, S = bsB (textR (.mk opb vb relb colb nb sb lb)).1 := ⟨_, rfl⟩
  rw [← hS, ← hU] at HTE ⊢
  obtain ⟨ea, hea⟩ : ∃ z, z = (textR (.mk opa va rela cola na sa la)).2 := ⟨_, rfl⟩
  obtain ⟨eb, heb⟩ : ∃ z, z = (textR (.mk opb vb relb colb nb sb lb)).2 := ⟨_, rfl⟩
  rw [← hea] at HTA ⊢
  rw [← heb] at HTB ⊢
  clear hS hU hea heb
  cases hra : rightE (.mk opa va rela cola na sa la) with
  | false =>
    have HRA := Lib.hid hra
    clear hra
    cases hrb : rightE (.mk opb vb relb colb nb sb lb) with
    | false =>
      have HRB := Lib.hid hrb
      clear hrb
      have hta : ea = 1 := by have h := HTA.out; rw [HRA.out] at h; exact h
      have htb : eb = 1 := by have h := HTB.out; rw [HRB.out] at h; exact h
      have hsm : sameB (.mk opa va rela cola na sa la) (.mk opb vb relb colb nb sb lb) = false := by unfold sameB; rw [HRA.out, HRB.out]; rfl
      subst hta htb
      have HSM := Lib.hid hsm
      clear hsm
      obtain ⟨lA, a0, a1, a2, a3, a4, a5, a6, a7, a8⟩ := HA4.out
      obtain ⟨lB, b0, b1, b2, b3, b4, b5, b6, b7, b8⟩ := HB4.out
      go_wp2_with fail
      refine (dsame_any (.mk opa va rela cola na sa la) (.mk opb vb relb colb nb sb lb) _ _ W4 (ExM.ext BW4.out _ _ HX.out) (ExM.ext BW4.out _ _ HY.out) (HG.out.on BW4.out)).mono ?_
      rintro e W5 ⟨he, hb5⟩
      rw [HSM.out] at he
      subst he
      have BW5 := Lib.hid (BW4.out.trans (hb5.mono BW4.out.size))
      have HA5 := Lib.hid (HA4.out.on hb5)
      have HB5 := Lib.hid (HB4.out.on hb5)
      clear hb5 lA a0 a1 a2 a3 a4 a5 a6 a7 a8 lB b0 b1 b2 b3 b4 b5 b6 b7 b8
      obtain ⟨lA, a0, a1, a2, a3, a4, a5, a6, a7, a8⟩ := HA5.out
      go_wp2_with fail
      refine (dright_any (.mk opa va rela cola na sa la) _ W5 (ExM.ext BW5.out _ _ HX.out) (HG.out.on BW5.out)).mono ?_
      rintro e W6 ⟨he, hb6⟩
      rw [HRA.out] at he
      subst he
      have BW6 := Lib.hid (BW5.out.trans (hb6.mono BW5.out.size))
      have HA6 := Lib.hid (HA5.out.on hb6)
      have HB6 := Lib.hid (HB5.out.on hb6)
      clear hb6 lA a0 a1 a2 a3 a4 a5 a6 a7 a8
      obtain ⟨lB, b0, b1, b2, b3, b4, b5, b6, b7, b8⟩ := HB6.out
      go_wp2_with fail
      refine (dright_any (.mk opb vb relb colb nb sb lb) _ W6 (ExM.ext BW6.out _ _ HY.out) (HG.out.on BW6.out)).mono ?_
      rintro e W7 ⟨he, hb7⟩
      rw [HRB.out] at he
      subst he
      have BW7 := Lib.hid (BW6.out.trans (hb7.mono BW6.out.size))
      have HA7 := Lib.hid (HA6.out.on hb7)
      have HB7 := Lib.hid (HB6.out.on hb7)
      clear hb7 lB b0 b1 b2 b3 b4 b5 b6 b7 b8
      go_wp2_with fail
      refine bodyPost_ret (v := .bool true) (by simp [results, Tryd.results7, go_sem]) rfl ⟨rfl, BW7.out⟩
    | true =>
      have HRB := Lib.hid hrb
      clear hrb
      have hta : ea = 1 := by have h := HTA.out; rw [HRA.out] at h; exact h
      have htb : eb = 0 := by have h := HTB.out; rw [HRB.out] at h; exact h
      have hsm : sameB (.mk opa va rela cola na sa la) (.mk opb vb relb colb nb sb lb) = false := by unfold sameB; rw [HRA.out, HRB.out]; rfl
      subst hta htb
      have HSM := Lib.hid hsm
      clear hsm
      obtain ⟨lA, a0, a1, a2, a3, a4, a5, a6, a7, a8⟩ := HA4.out
      obtain ⟨lB, b0, b1, b2, b3, b4, b5, b6, b7, b8⟩ := HB4.out
      go_wp2_with fail
      refine (dsame_any (.mk opa va rela cola na sa la) (.mk opb vb relb colb nb sb lb) _ _ W4 (ExM.ext BW4.out _ _ HX.out) (ExM.ext BW4.out _ _ HY.out) (HG.out.on BW4.out)).mono ?_
      rintro e W5 ⟨he, hb5⟩
      rw [HSM.out] at he
      subst he
      have BW5 := Lib.hid (BW4.out.trans (hb5.mono BW4.out.size))
      have HA5 := Lib.hid (HA4.out.on hb5)
      have HB5 := Lib.hid (HB4.out.on hb5)
      clear hb5 lA a0 a1 a2 a3 a4 a5 a6 a7 a8 lB b0 b1 b2 b3 b4 b5 b6 b7 b8
      obtain ⟨lA, a0, a1, a2, a3, a4, a5, a6, a7, a8⟩ := HA5.out
      go_wp2_with fail
      refine (dright_any (.mk opa va rela cola na sa la) _ W5 (ExM.ext BW5.out _ _ HX.out) (HG.out.on BW5.out)).mono ?_
      rintro e W6 ⟨he, hb6⟩
      rw [HRA.out] at he
      subst he
      have BW6 := Lib.hid (BW5.out.trans (hb6.mono BW5.out.size))
      have HA6 := Lib.hid (HA5.out.on hb6)
      have HB6 := Lib.hid (HB5.out.on hb6)
      clear hb6 lA a0 a1 a2 a3 a4 a5 a6 a7 a8
      obtain ⟨lB, b0, b1, b2, b3, b4, b5, b6, b7, b8⟩ := HB6.out
      go_wp2_with fail
      refine (dright_any (.mk opb vb relb colb nb sb lb) _ W6 (ExM.ext BW6.out _ _ HY.out) (HG.out.on BW6.out)).mono ?_
      rintro e W7 ⟨he, hb7⟩
      rw [HRB.out] at he
      subst he
      have BW7 := Lib.hid (BW6.out.trans (hb7.mono BW6.out.size))
      have HA7 := Lib.hid (HA6.out.on hb7)
      have HB7 := Lib.hid (HB6.out.on hb7)
      clear hb7 lB b0 b1 b2 b3 b4 b5 b6 b7 b8
      go_wp2_with fail
      refine bodyPost_ret (v := .bool true) (by simp [results, Tryd.results7, go_sem]) rfl ⟨rfl, BW7.out⟩
  | true =>
    have HRA := Lib.hid hra
    clear hra
    cases hrb : rightE (.mk opb vb relb colb nb sb lb) with
    | false =>
      have HRB := Lib.hid hrb
      clear hrb
      have hta : ea = 0 := by have h := HTA.out; rw [HRA.out] at h; exact h
      have htb : eb = 1 := by have h := HTB.out; rw [HRB.out] at h; exact h
      have hsm : sameB (.mk opa va rela cola na sa la) (.mk opb vb relb colb nb sb lb) = false := by unfold sameB; rw [HRA.out, HRB.out]; rfl
      subst hta htb
      have HSM := Lib.hid hsm
      clear hsm
      obtain ⟨lA, a0, a1, a2, a3, a4, a5, a6, a7, a8⟩ := HA4.out
      obtain ⟨lB, b0, b1, b2, b3, b4, b5, b6, b7, b8⟩ := HB4.out
      go_wp2_with fail
      refine (dsame_any (.mk opa va rela cola na sa la) (.mk opb vb relb colb nb sb lb) _ _ W4 (ExM.ext BW4.out _ _ HX.out) (ExM.ext BW4.out _ _ HY.out) (HG.out.on BW4.out)).mono ?_
      rintro e W5 ⟨he, hb5⟩
      rw [HSM.out] at he
      subst he
      have BW5 := Lib.hid (BW4.out.trans (hb5.mono BW4.out.size))
      have HA5 := Lib.hid (HA4.out.on hb5)
      have HB5 := Lib.hid (HB4.out.on hb5)
      clear hb5 lA a0 a1 a2 a3 a4 a5 a6 a7 a8 lB b0 b1 b2 b3 b4 b5 b6 b7 b8
      obtain ⟨lA, a0, a1, a2, a3, a4, a5, a6, a7, a8⟩ := HA5.out
      go_wp2_with fail
      refine (dright_any (.mk opa va rela cola na sa la) _ W5 (ExM.ext BW5.out _ _ HX.out) (HG.out.on BW5.out)).mono ?_
      rintro e W6 ⟨he, hb6⟩
      rw [HRA.out] at he
      subst he
      have BW6 := Lib.hid (BW5.out.trans (hb6.mono BW5.out.size))
      have HA6 := Lib.hid (HA5.out.on hb6)
      have HB6 := Lib.hid (HB5.out.on hb6)
      clear hb6 lA a0 a1 a2 a3 a4 a5 a6 a7 a8
      obtain ⟨lB, b0, b1, b2, b3, b4, b5, b6, b7, b8⟩ := HB6.out
      go_wp2_with fail
      refine (dright_any (.mk opb vb relb colb nb sb lb) _ W6 (ExM.ext BW6.out _ _ HY.out) (HG.out.on BW6.out)).mono ?_
      rintro e W7 ⟨he, hb7⟩
      rw [HRB.out] at he
      subst he
      have BW7 := Lib.hid (BW6.out.trans (hb7.mono BW6.out.size))
      have HA7 := Lib.hid (HA6.out.on hb7)
      have HB7 := Lib.hid (HB6.out.on hb7)
      clear hb7 lB b0 b1 b2 b3 b4 b5 b6 b7 b8
      go_wp2_with fail
      refine bodyPost_ret (v := .bool true) (by simp [results, Tryd.results7, go_sem]) rfl ⟨rfl, BW7.out⟩
    | true =>
      have HRB := Lib.hid hrb
      clear hrb
      have hta : ea = 0 := by have h := HTA.out; rw [HRA.out] at h; exact h
      have htb : eb = 0 := by have h := HTB.out; rw [HRB.out] at h; exact h
      subst hta htb
      cases hse : sameE (.mk opa va rela cola na sa la) (.mk opb vb relb colb nb sb lb) with
      | false =>
        have HSE := Lib.hid hse
        have hst : (S.toList == U.toList) = false := (HTE.out HRA.out HRB.out).trans hse
        have C1 := Lib.hid (fun (x : After W4) => calls_after ((dsame_any (.mk opa va rela cola na sa la) (.mk opb vb relb colb nb sb lb) _ _ x.W (ExM.ext (BW4.out.trans (x.below.mono BW4.out.size)) _ _ HX.out) (ExM.ext (BW4.out.trans (x.below.mono BW4.out.size)) _ _ HY.out) (HG.out.on (BW4.out.trans (x.below.mono BW4.out.size)))).mono (fun e w' h => (⟨by rw [h.1]; unfold sameB; rw [HRA.out, HRB.out, HSE.out]; rfl, h.2⟩ : e = .returned (.bool false) ∧ Below x.W.heap.size x.W w'))))
        have C2 := Lib.hid (fun (x : After W4) => calls_after ((dsame_any (.mk opb vb relb colb nb sb lb) (.mk opa va rela cola na sa la) _ _ x.W (ExM.ext (BW4.out.trans (x.below.mono BW4.out.size)) _ _ HY.out) (ExM.ext (BW4.out.trans (x.below.mono BW4.out.size)) _ _ HX.out) (HG.out.on (BW4.out.trans (x.below.mono BW4.out.size)))).mono (fun e w' h => (⟨by rw [h.1]; unfold sameB; rw [HRA.out, HRB.out, ← same_symm (right_iff.1 HRA.out).1 (right_iff.1 HRB.out).1, HSE.out]; rfl, h.2⟩ : e = .returned (.bool false) ∧ Below x.W.heap.size x.W w'))))
        have C3 := Lib.hid (fun (x : After W4) => calls_after ((dsame_any (.mk opa va rela cola na sa la) (.mk opa va rela cola na sa la) _ _ x.W (ExM.ext (BW4.out.trans (x.below.mono BW4.out.size)) _ _ HX.out) (ExM.ext (BW4.out.trans (x.below.mono BW4.out.size)) _ _ HX.out) (HG.out.on (BW4.out.trans (x.below.mono BW4.out.size)))).mono (fun e w' h => (⟨by rw [h.1]; unfold sameB; rw [HRA.out, same_refl]; rfl, h.2⟩ : e = .returned (.bool true) ∧ Below x.W.heap.size x.W w'))))
        go_upto_region 6 with fail
        have ra0 := fun (x : After W4) => (x.cell g 0 HA4.out.lt).trans HA4.out.c0
        have rb0 := fun (x : After W4) => (x.cell (g + 1) 0 HB4.out.lt).trans HB4.out.c0
        have ra1 := fun (x : After W4) => (x.cell g 1 HA4.out.lt).trans HA4.out.c1
        have rb1 := fun (x : After W4) => (x.cell (g + 1) 1 HB4.out.lt).trans HB4.out.c1
        have ra2 := fun (x : After W4) => (x.cell g 2 HA4.out.lt).trans HA4.out.c2
        have rb2 := fun (x : After W4) => (x.cell (g + 1) 2 HB4.out.lt).trans HB4.out.c2
        have ra3 := fun (x : After W4) => (x.cell g 3 HA4.out.lt).trans HA4.out.c3
        have rb3 := fun (x : After W4) => (x.cell (g + 1) 3 HB4.out.lt).trans HB4.out.c3
        have ra4 := fun (x : After W4) => (x.cell g 4 HA4.out.lt).trans HA4.out.c4
        have rb4 := fun (x : After W4) => (x.cell (g + 1) 4 HB4.out.lt).trans HB4.out.c4
        have ra5 := fun (x : After W4) => (x.cell g 5 HA4.out.lt).trans HA4.out.c5
        have rb5 := fun (x : After W4) => (x.cell (g + 1) 5 HB4.out.lt).trans HB4.out.c5
        have ra6 := fun (x : After W4) => (x.cell g 6 HA4.out.lt).trans HA4.out.c6
        have rb6 := fun (x : After W4) => (x.cell (g + 1) 6 HB4.out.lt).trans HB4.out.c6
        have ra7 := fun (x : After W4) => (x.cell g 7 HA4.out.lt).trans HA4.out.c7
        have rb7 := fun (x : After W4) => (x.cell (g + 1) 7 HB4.out.lt).trans HB4.out.c7
        have ra8 := fun (x : After W4) => (x.cell g 8 HA4.out.lt).trans HA4.out.c8
        have rb8 := fun (x : After W4) => (x.cell (g + 1) 8 HB4.out.lt).trans HB4.out.c8
        have is := After.some W4
        refine wp_region_after (by kernel_rfl) (by kernel_rfl) ?_
        repeat (go_big_quiet_step ((go_at_call 19; first | with_reducible exact C1.out _ | with_reducible exact C2.out _ | with_reducible exact C3.out _)))
        refine wpQuiet_nil ?_
        intro Wq hw
        obtain ⟨⟨Wq, hbq⟩, rfl⟩ := hw
        go_wp2_with fail
        refine bodyPost_ret (v := .bool true) (by simp [results, Tryd.results7, go_sem]) rfl ⟨rfl, BW4.out.trans (hbq.mono BW4.out.size)⟩
      | true =>
        have HSE := Lib.hid hse
        have hst : (S.toList == U.toList) = true := (HTE.out HRA.out HRB.out).trans hse
        have C1 := Lib.hid (fun (x : After W4) => calls_after ((dsame_any (.mk opa va rela cola na sa la) (.mk opb vb relb colb nb sb lb) _ _ x.W (ExM.ext (BW4.out.trans (x.below.mono BW4.out.size)) _ _ HX.out) (ExM.ext (BW4.out.trans (x.below.mono BW4.out.size)) _ _ HY.out) (HG.out.on (BW4.out.trans (x.below.mono BW4.out.size)))).mono (fun e w' h => (⟨by rw [h.1]; unfold sameB; rw [HRA.out, HRB.out, HSE.out]; rfl, h.2⟩ : e = .returned (.bool true) ∧ Below x.W.heap.size x.W w'))))
        have C2 := Lib.hid (fun (x : After W4) => calls_after ((dsame_any (.mk opb vb relb colb nb sb lb) (.mk opa va rela cola na sa la) _ _ x.W (ExM.ext (BW4.out.trans (x.below.mono BW4.out.size)) _ _ HY.out) (ExM.ext (BW4.out.trans (x.below.mono BW4.out.size)) _ _ HX.out) (HG.out.on (BW4.out.trans (x.below.mono BW4.out.size)))).mono (fun e w' h => (⟨by rw [h.1]; unfold sameB; rw [HRA.out, HRB.out, ← same_symm (right_iff.1 HRA.out).1 (right_iff.1 HRB.out).1, HSE.out]; rfl, h.2⟩ : e = .returned (.bool true) ∧ Below x.W.heap.size x.W w'))))
        have C3 := Lib.hid (fun (x : After W4) => calls_after ((dsame_any (.mk opa va rela cola na sa la) (.mk opa va rela cola na sa la) _ _ x.W (ExM.ext (BW4.out.trans (x.below.mono BW4.out.size)) _ _ HX.out) (ExM.ext (BW4.out.trans (x.below.mono BW4.out.size)) _ _ HX.out) (HG.out.on (BW4.out.trans (x.below.mono BW4.out.size)))).mono (fun e w' h => (⟨by rw [h.1]; unfold sameB; rw [HRA.out, same_refl]; rfl, h.2⟩ : e = .returned (.bool true) ∧ Below x.W.heap.size x.W w'))))
        go_upto_region 6 with fail
        have ra0 := fun (x : After W4) => (x.cell g 0 HA4.out.lt).trans HA4.out.c0
        have rb0 := fun (x : After W4) => (x.cell (g + 1) 0 HB4.out.lt).trans HB4.out.c0
        have ra1 := fun (x : After W4) => (x.cell g 1 HA4.out.lt).trans HA4.out.c1
        have rb1 := fun (x : After W4) => (x.cell (g + 1) 1 HB4.out.lt).trans HB4.out.c1
        have ra2 := fun (x : After W4) => (x.cell g 2 HA4.out.lt).trans HA4.out.c2
        have rb2 := fun (x : After W4) => (x.cell (g + 1) 2 HB4.out.lt).trans HB4.out.c2
        have ra3 := fun (x : After W4) => (x.cell g 3 HA4.out.lt).trans HA4.out.c3
        have rb3 := fun (x : After W4) => (x.cell (g + 1) 3 HB4.out.lt).trans HB4.out.c3
        have ra4 := fun (x : After W4) => (x.cell g 4 HA4.out.lt).trans HA4.out.c4
        have rb4 := fun (x : After W4) => (x.cell (g + 1) 4 HB4.out.lt).trans HB4.out.c4
        have ra5 := fun (x : After W4) => (x.cell g 5 HA4.out.lt).trans HA4.out.c5
        have rb5 := fun (x : After W4) => (x.cell (g + 1) 5 HB4.out.lt).trans HB4.out.c5
        have ra6 := fun (x : After W4) => (x.cell g 6 HA4.out.lt).trans HA4.out.c6
        have rb6 := fun (x : After W4) => (x.cell (g + 1) 6 HB4.out.lt).trans HB4.out.c6
        have ra7 := fun (x : After W4) => (x.cell g 7 HA4.out.lt).trans HA4.out.c7
        have rb7 := fun (x : After W4) => (x.cell (g + 1) 7 HB4.out.lt).trans HB4.out.c7
        have ra8 := fun (x : After W4) => (x.cell g 8 HA4.out.lt).trans HA4.out.c8
        have rb8 := fun (x : After W4) => (x.cell (g + 1) 8 HB4.out.lt).trans HB4.out.c8
        have is := After.some W4
        refine wp_region_after (by kernel_rfl) (by kernel_rfl) ?_
        repeat (go_big_quiet_step ((go_at_call 19; first | with_reducible exact C1.out _ | with_reducible exact C2.out _ | with_reducible exact C3.out _)))
        refine wpQuiet_nil ?_
        intro Wq hw
        obtain ⟨⟨Wq, hbq⟩, rfl⟩ := hw
        go_wp2_with fail
        refine bodyPost_ret (v := .bool true) (by simp [results, Tryd.results7, go_sem]) rfl ⟨rfl, BW4.out.trans (hbq.mono BW4.out.size)⟩

end Go.Proofs.YthdnbcdcfaocmaaDoor
