/- The developers' Same: a function that calls itself through slices.EqualFunc. -/
import Derived.Test.YtiidfghdmaipoaaDoorDvC
import Derived.Test.YtiidfghdmaipoaaDoorExH
namespace Go.Proofs.YtiidfghdmaipoaaDoor
open Go.RowKit
set_option maxRecDepth 100000

/-- The function's own variable. -/
structure SC (w : World) (R : Nat) : Prop where
  cR : w.cell? ⟨R, 0, none⟩ = some (.func (.func 33) #[] #[.pointer (some ⟨R, 0, none⟩)])
  lR : R < w.heap.size
theorem SC.on {w w' : World} {R : Nat} (h : SC w R) (hb : Below w.heap.size w w') : SC w' R := ⟨(hb.cell (p := ⟨_, _, none⟩) h.lR).trans h.cR, Nat.lt_of_lt_of_le h.lR hb.size⟩
def EqC (x : Ex) : Prop := ∀ (y : Ex) (w : World) (cs ds : List Value) (R : Nat), ExM w x cs → ExM w y ds → SC w R →
  Calls Tryd.prog 33 #[.agg cs.toArray, .agg ds.toArray, .pointer (some ⟨R, 0, none⟩)] w fun e w' => e = .returned (.bool (sameE x y)) ∧ Below w.heap.size w w'

set_option maxHeartbeats 8000000 in
theorem eqFunc_any (l m : List Ex) (h2 : l.length ≤ 2) (IH : ∀ y ∈ l, EqC y) (q q' : Option Addr) (c c' R : Nat) (w : World) (hl : ExL w q 0 l) (hm : ExL w q' 0 m) (hS : SC w R) :
    Calls Tryd.prog 34 #[.slice q l.length c, .slice q' m.length c', (.func (.func 33) #[] #[.pointer (some ⟨R, 0, none⟩)])] w fun e w' => e = .returned (.bool (sameL l m)) ∧ Below w.heap.size w w' := by
  have HL := Lib.hid hl
  have HM := Lib.hid hm
  have HI := Lib.hid IH
  have HS := Lib.hid hS
  have cR := hS.cR
  have lR := hS.lR
  clear hl hm IH hS
  by_cases hn : l.length = m.length
  · have hm2 : m.length ≤ 2 := by omega
    rcases l with _ | ⟨x0, _ | ⟨x1, _ | ⟨x2, r⟩⟩⟩
    · rcases m with _ | ⟨y0, m'⟩
      · have HQ := Lib.hid (show sameL [] [] = true from rfl)
        simp only [List.length_nil]
        clear h2 hm2 hn
        go_enter Tryd.func34, Tryd.ntmps34
        go_wp2_with fail
        refine wp_loop_rounds 1 ?_
        rw [rounds_succ]
        go_wp2_with fail
        refine bodyPost_ret (v := .bool true) (by simp [results, Tryd.results34, go_sem]) rfl ⟨by rw [HQ.out], Below.refl _ _⟩
      · simp at hn
    · rcases m with _ | ⟨y0, _ | ⟨y1, m'⟩⟩
      · simp at hn
      · simp only [List.length_cons, List.length_nil, Nat.zero_add]
        clear h2 hm2 hn
        have hl_ := ExL.at_ (j := 0) (x := x0) HL.out rfl
        obtain ⟨ag0, aoff0, acs0, ahq0, ahg0, ahx0, hcell⟩ := hl_
        subst ahq0
        have aHX0 := Lib.hid ahx0
        obtain ⟨aop1, av1, arel1, acol1, an1, as1, al1⟩ := x0
        rw [ExM.iff] at ahx0
        obtain ⟨-, aqq0, acc0, rfl, -, -⟩ := ahx0
        have af0 := hcell 0 _ rfl
        have af1 := hcell 1 _ rfl
        have af2 := hcell 2 _ rfl
        have af3 := hcell 3 _ rfl
        have af4 := hcell 4 _ rfl
        have af5 := hcell 5 _ rfl
        have af6 := hcell 6 _ rfl
        have af7 := hcell 7 _ rfl
        have af8 := hcell 8 _ rfl
        simp only [Nat.zero_mul, Nat.add_zero] at af0 af1 af2 af3 af4 af5 af6 af7 af8
        clear hcell
        have hl_ := ExL.at_ (j := 0) (x := y0) HM.out rfl
        obtain ⟨bg0, boff0, bcs0, bhq0, bhg0, bhx0, hcell⟩ := hl_
        subst bhq0
        have bHX0 := Lib.hid bhx0
        obtain ⟨bop1, bv1, brel1, bcol1, bn1, bs1, bl1⟩ := y0
        rw [ExM.iff] at bhx0
        obtain ⟨-, bqq0, bcc0, rfl, -, -⟩ := bhx0
        have bf0 := hcell 0 _ rfl
        have bf1 := hcell 1 _ rfl
        have bf2 := hcell 2 _ rfl
        have bf3 := hcell 3 _ rfl
        have bf4 := hcell 4 _ rfl
        have bf5 := hcell 5 _ rfl
        have bf6 := hcell 6 _ rfl
        have bf7 := hcell 7 _ rfl
        have bf8 := hcell 8 _ rfl
        simp only [Nat.zero_mul, Nat.add_zero] at bf0 bf1 bf2 bf3 bf4 bf5 bf6 bf7 bf8
        clear hcell
        go_enter Tryd.func34, Tryd.ntmps34
        go_wp2_with fail
        refine wp_loop_rounds 2 ?_
        rw [rounds_succ]
        go_wp2_with fail
        refine (HI.out (Ex.mk aop1 av1 arel1 acol1 an1 as1 al1) (by simp) (Ex.mk bop1 bv1 brel1 bcol1 bn1 bs1 bl1) _ _ _ R (ExM.ext (ext_alloc (ext_alloc (ext_refl _) _) _) _ _ aHX0.out) (ExM.ext (ext_alloc (ext_alloc (ext_refl _) _) _) _ _ bHX0.out) (HS.out.on (ext_alloc (ext_alloc (ext_refl _) _) _))).mono ?_
        rintro e Y ⟨he, hb⟩
        have hb' := ext_trans (ext_alloc (ext_alloc (ext_refl w) _) _) hb
        have HBY := Lib.hid (hb')
        have HSY := Lib.hid (HS.out.on hb')
        clear af0 bf0 af1 bf1 af2 bf2 af3 bf3 af4 bf4 af5 bf5 af6 bf6 af7 bf7 af8 bf8
        clear cR lR hb hb'
        have cR := HSY.out.cR
        have lR := HSY.out.lR
        obtain ⟨t, ht⟩ : ∃ t, t = sameE (Ex.mk aop1 av1 arel1 acol1 an1 as1 al1) (Ex.mk bop1 bv1 brel1 bcol1 bn1 bs1 bl1) := ⟨_, rfl⟩
        rw [← ht] at he
        have HT := Lib.hid ht
        clear ht
        subst he
        cases t with
        | false =>
          go_wp2_with fail
          refine bodyPost_ret (v := .bool false) (by simp [results, Tryd.results34, go_sem]) rfl ⟨by rw [sameL, ← HT.out, Bool.false_and], HBY.out⟩
        | true =>
          go_wp2_with fail
          rw [rounds_succ]
          go_wp2_with fail
          refine bodyPost_ret (v := .bool true) (by simp [results, Tryd.results34, go_sem]) rfl ⟨by rw [sameL, sameL, ← HT.out, Bool.true_and], HBY.out⟩
      · simp at hn
    · rcases m with _ | ⟨y0, _ | ⟨y1, _ | ⟨y2, m'⟩⟩⟩
      · simp at hn
      · simp at hn
      · simp only [List.length_cons, List.length_nil, Nat.zero_add, Nat.reduceAdd]
        clear h2 hm2 hn
        have hl_ := ExL.at_ (j := 0) (x := x0) HL.out rfl
        obtain ⟨ag0, aoff0, acs0, ahq0, ahg0, ahx0, hcell⟩ := hl_
        subst ahq0
        have aHX0 := Lib.hid ahx0
        obtain ⟨aop1, av1, arel1, acol1, an1, as1, al1⟩ := x0
        rw [ExM.iff] at ahx0
        obtain ⟨-, aqq0, acc0, rfl, -, -⟩ := ahx0
        have af0 := hcell 0 _ rfl
        have af1 := hcell 1 _ rfl
        have af2 := hcell 2 _ rfl
        have af3 := hcell 3 _ rfl
        have af4 := hcell 4 _ rfl
        have af5 := hcell 5 _ rfl
        have af6 := hcell 6 _ rfl
        have af7 := hcell 7 _ rfl
        have af8 := hcell 8 _ rfl
        simp only [Nat.zero_mul, Nat.add_zero] at af0 af1 af2 af3 af4 af5 af6 af7 af8
        clear hcell
        have hl_ := ExL.at_ (j := 0) (x := y0) HM.out rfl
        obtain ⟨bg0, boff0, bcs0, bhq0, bhg0, bhx0, hcell⟩ := hl_
        subst bhq0
        have bHX0 := Lib.hid bhx0
        obtain ⟨bop1, bv1, brel1, bcol1, bn1, bs1, bl1⟩ := y0
        rw [ExM.iff] at bhx0
        obtain ⟨-, bqq0, bcc0, rfl, -, -⟩ := bhx0
        have bf0 := hcell 0 _ rfl
        have bf1 := hcell 1 _ rfl
        have bf2 := hcell 2 _ rfl
        have bf3 := hcell 3 _ rfl
        have bf4 := hcell 4 _ rfl
        have bf5 := hcell 5 _ rfl
        have bf6 := hcell 6 _ rfl
        have bf7 := hcell 7 _ rfl
        have bf8 := hcell 8 _ rfl
        simp only [Nat.zero_mul, Nat.add_zero] at bf0 bf1 bf2 bf3 bf4 bf5 bf6 bf7 bf8
        clear hcell
        go_enter Tryd.func34, Tryd.ntmps34
        go_wp2_with fail
        refine wp_loop_rounds 3 ?_
        rw [rounds_succ]
        go_wp2_with fail
        refine (HI.out (Ex.mk aop1 av1 arel1 acol1 an1 as1 al1) (by simp) (Ex.mk bop1 bv1 brel1 bcol1 bn1 bs1 bl1) _ _ _ R (ExM.ext (ext_alloc (ext_alloc (ext_refl _) _) _) _ _ aHX0.out) (ExM.ext (ext_alloc (ext_alloc (ext_refl _) _) _) _ _ bHX0.out) (HS.out.on (ext_alloc (ext_alloc (ext_refl _) _) _))).mono ?_
        rintro e Y ⟨he, hb⟩
        have hb' := ext_trans (ext_alloc (ext_alloc (ext_refl w) _) _) hb
        have HBY := Lib.hid (hb')
        have HSY := Lib.hid (HS.out.on hb')
        have HLY := Lib.hid (ExL.ext hb' _ _ _ HL.out)
        have HMY := Lib.hid (ExL.ext hb' _ _ _ HM.out)
        clear af0 bf0 af1 bf1 af2 bf2 af3 bf3 af4 bf4 af5 bf5 af6 bf6 af7 bf7 af8 bf8
        clear cR lR hb hb'
        have cR := HSY.out.cR
        have lR := HSY.out.lR
        obtain ⟨t, ht⟩ : ∃ t, t = sameE (Ex.mk aop1 av1 arel1 acol1 an1 as1 al1) (Ex.mk bop1 bv1 brel1 bcol1 bn1 bs1 bl1) := ⟨_, rfl⟩
        rw [← ht] at he
        have HT := Lib.hid ht
        clear ht
        subst he
        cases t with
        | false =>
          go_wp2_with fail
          refine bodyPost_ret (v := .bool false) (by simp [results, Tryd.results34, go_sem]) rfl ⟨by rw [sameL, ← HT.out, Bool.false_and], HBY.out⟩
        | true =>
          have hl_ := ExL.at_ (j := 1) (x := x1) HLY.out rfl
          obtain ⟨ag1, aoff1, acs1, ahq1, ahg1, ahx1, hcell⟩ := hl_
          obtain ⟨rfl, rfl⟩ : ag1 = ag0 ∧ aoff1 = aoff0 := by cases ahq1; exact ⟨rfl, rfl⟩
          clear ahq1
          have aHX1 := Lib.hid ahx1
          obtain ⟨aop2, av2, arel2, acol2, an2, as2, al2⟩ := x1
          rw [ExM.iff] at ahx1
          obtain ⟨-, aqq1, acc1, rfl, -, -⟩ := ahx1
          have af0 := hcell 0 _ rfl
          have af1 := hcell 1 _ rfl
          have af2 := hcell 2 _ rfl
          have af3 := hcell 3 _ rfl
          have af4 := hcell 4 _ rfl
          have af5 := hcell 5 _ rfl
          have af6 := hcell 6 _ rfl
          have af7 := hcell 7 _ rfl
          have af8 := hcell 8 _ rfl
          clear hcell
          have hl_ := ExL.at_ (j := 1) (x := y1) HMY.out rfl
          obtain ⟨bg1, boff1, bcs1, bhq1, bhg1, bhx1, hcell⟩ := hl_
          obtain ⟨rfl, rfl⟩ : bg1 = bg0 ∧ boff1 = boff0 := by cases bhq1; exact ⟨rfl, rfl⟩
          clear bhq1
          have bHX1 := Lib.hid bhx1
          obtain ⟨bop2, bv2, brel2, bcol2, bn2, bs2, bl2⟩ := y1
          rw [ExM.iff] at bhx1
          obtain ⟨-, bqq1, bcc1, rfl, -, -⟩ := bhx1
          have bf0 := hcell 0 _ rfl
          have bf1 := hcell 1 _ rfl
          have bf2 := hcell 2 _ rfl
          have bf3 := hcell 3 _ rfl
          have bf4 := hcell 4 _ rfl
          have bf5 := hcell 5 _ rfl
          have bf6 := hcell 6 _ rfl
          have bf7 := hcell 7 _ rfl
          have bf8 := hcell 8 _ rfl
          clear hcell
          go_wp2_with fail
          rw [rounds_succ]
          go_wp2_with fail
          refine (HI.out (Ex.mk aop2 av2 arel2 acol2 an2 as2 al2) (by simp) (Ex.mk bop2 bv2 brel2 bcol2 bn2 bs2 bl2) _ _ _ R (ExM.ext (ext_alloc (ext_alloc (ext_refl _) _) _) _ _ aHX1.out) (ExM.ext (ext_alloc (ext_alloc (ext_refl _) _) _) _ _ bHX1.out) (HSY.out.on (ext_alloc (ext_alloc (ext_refl _) _) _))).mono ?_
          rintro e Z ⟨he, hb⟩
          have hb' := ext_trans (ext_alloc (ext_alloc (ext_refl Y) _) _) hb
          have HBZ := Lib.hid (HBY.out.trans (hb'.mono HBY.out.size))
          have HSZ := Lib.hid (HSY.out.on hb')
          clear af0 bf0 af1 bf1 af2 bf2 af3 bf3 af4 bf4 af5 bf5 af6 bf6 af7 bf7 af8 bf8
          clear cR lR hb hb'
          obtain ⟨t2, ht⟩ : ∃ t, t = sameE (Ex.mk aop2 av2 arel2 acol2 an2 as2 al2) (Ex.mk bop2 bv2 brel2 bcol2 bn2 bs2 bl2) := ⟨_, rfl⟩
          rw [← ht] at he
          have HT2 := Lib.hid ht
          clear ht
          subst he
          cases t2 with
          | false =>
            go_wp2_with fail
            refine bodyPost_ret (v := .bool false) (by simp [results, Tryd.results34, go_sem]) rfl ⟨by rw [sameL, sameL, ← HT.out, ← HT2.out, Bool.true_and, Bool.false_and], HBZ.out⟩
          | true =>
            go_wp2_with fail
            rw [rounds_succ]
            go_wp2_with fail
            refine bodyPost_ret (v := .bool true) (by simp [results, Tryd.results34, go_sem]) rfl ⟨by rw [sameL, sameL, sameL, ← HT.out, ← HT2.out, Bool.true_and, Bool.true_and], HBZ.out⟩
      · simp at hn
    · simp at h2
  · have HQ := Lib.hid (sameL_len l m hn)
    have z : ((l.length : Int) == (m.length : Int)) = false := by rw [beq_eq_false_iff_ne]; omega
    have z' : ((l.length : Int) != (m.length : Int)) = true := by rw [bne, z]; rfl
    go_enter Tryd.func34, Tryd.ntmps34
    go_wp2_with fail
    refine bodyPost_ret (v := .bool false) (by simp [results, Tryd.results34, go_sem]) rfl ⟨by rw [HQ.out], Below.refl _ _⟩

set_option maxHeartbeats 8000000 in
theorem eqC_mk (opa : Int) (va : Val) (rela cola na : Int) (sa : ByteArray) (la : List Ex) (h2 : la.length ≤ 2) (IH : ∀ y ∈ la, EqC y) : EqC (.mk opa va rela cola na sa la) := by
  intro y w cs ds R hx hy hS
  obtain ⟨opb, vb, relb, colb, nb, sb, lb⟩ := y
  rw [ExM.iff] at hx hy
  obtain ⟨-, qa, ca, rfl, -, hla⟩ := hx
  obtain ⟨-, qb, cb, rfl, -, hlb⟩ := hy
  have EA0 := EB.new w opa va rela cola na sa qa la.length ca 26
  have HI := Lib.hid IH
  have H2 := Lib.hid h2
  obtain ⟨W1, hW1⟩ : ∃ W1, W1 = w.alloc (.cells (exCells opa va rela cola na sa qa la.length ca).toArray 26) := ⟨_, rfl⟩
  rw [← hW1] at EA0
  have EB0 := EB.new W1 opb vb relb colb nb sb qb lb.length cb 26
  have EA1 := EA0.on (ext_alloc (ext_refl W1) (.cells (exCells opb vb relb colb nb sb qb lb.length cb).toArray 26))
  obtain ⟨W, hW⟩ : ∃ W, W = W1.alloc (.cells (exCells opb vb relb colb nb sb qb lb.length cb).toArray 26) := ⟨_, rfl⟩
  rw [← hW] at EB0 EA1
  have hb : Below w.heap.size w W := by rw [hW, hW1]; (repeat (first | exact ext_refl _ | assumption | (refine ext_alloc ?_ _) | (refine ext_drewN ?_ _) | refine ext_drew ?_ | (refine ext_set (by first | (simp; done) | (simp; omega)) _ ?_) | (refine ext_trans ?_ (by assumption))))
  have HB := Lib.hid hb
  have HLA := Lib.hid (ExL.ext hb _ _ _ hla)
  have HLB := Lib.hid (ExL.ext hb _ _ _ hlb)
  have HS := Lib.hid (hS.on hb)
  have hz1 : W1.heap.size = w.heap.size + 1 := by rw [hW1]; simp
  rw [hz1] at EB0
  have cR := HS.out.cR
  have lR := HS.out.lR
  have HW := Lib.hid (show W = (w.alloc (.cells (exCells opa va rela cola na sa qa la.length ca).toArray 26)).alloc (.cells (exCells opb vb relb colb nb sb qb lb.length cb).toArray 26) by rw [hW, hW1])
  clear hb hW hW1 EA0 hla hlb hS IH hz1
  go_enter Tryd.func33, Tryd.ntmps33
  go_upto_region 1 with fail
  rw [← HW.out]
  clear HW
  obtain ⟨lt, c0, c1, c2, c3, c4, c5, c6, c7, c8⟩ := EA1
  obtain ⟨lt', d0, d1, d2, d3, d4, d5, d6, d7, d8⟩ := EB0
  obtain ⟨g, hg⟩ : ∃ g, g = w.heap.size := ⟨_, rfl⟩
  rw [← hg] at lt c0 c1 c2 c3 c4 c5 c6 c7 c8 lt' d0 d1 d2 d3 d4 d5 d6 d7 d8 ⊢
  clear hg
  obtain ⟨h, hh⟩ : ∃ h, h = g + 1 := ⟨_, rfl⟩
  rw [← hh] at lt' d0 d1 d2 d3 d4 d5 d6 d7 d8 ⊢
  clear hh
  cases z0 : (opa == opb) with
  | false =>
    have HZ := Lib.hid (show sameE (Ex.mk opa va rela cola na sa la) (Ex.mk opb vb relb colb nb sb lb) = false by rw [sameE, z0]; rfl)
    go_wp2_with fail
    refine bodyPost_ret (v := .bool false) (by simp [results, Tryd.results33, go_sem]) rfl ⟨by rw [HZ.out], HB.out⟩
  | true =>
    cases z1 : (va.k == vb.k && va.n == vb.n && va.s.toList == vb.s.toList) with
    | false =>
      have hv := Tryd.eqlVal va vb
      rw [z1] at hv
      have HZ := Lib.hid (show sameE (Ex.mk opa va rela cola na sa la) (Ex.mk opb vb relb colb nb sb lb) = false by rw [sameE, z0, z1]; rfl)
      clear z1
      go_wp2_with fail
      refine bodyPost_ret (v := .bool false) (by simp [results, Tryd.results33, go_sem]) rfl ⟨by rw [HZ.out], HB.out⟩
    | true =>
      have hv := Tryd.eqlVal va vb
      rw [z1] at hv
      have Z1 := Lib.hid z1
      cases z2 : (rela == relb) with
      | false =>
        have hv := Tryd.eqlVal va vb
        rw [z1] at hv
        have HZ := Lib.hid (show sameE (Ex.mk opa va rela cola na sa la) (Ex.mk opb vb relb colb nb sb lb) = false by rw [sameE, z0, z1, z2]; rfl)
        go_wp2_with fail
        refine bodyPost_ret (v := .bool false) (by simp [results, Tryd.results33, go_sem]) rfl ⟨by rw [HZ.out], HB.out⟩
      | true =>
        cases z3 : (cola == colb) with
        | false =>
          have hv := Tryd.eqlVal va vb
          rw [z1] at hv
          have HZ := Lib.hid (show sameE (Ex.mk opa va rela cola na sa la) (Ex.mk opb vb relb colb nb sb lb) = false by rw [sameE, z0, z1, z2, z3]; rfl)
          go_wp2_with fail
          refine bodyPost_ret (v := .bool false) (by simp [results, Tryd.results33, go_sem]) rfl ⟨by rw [HZ.out], HB.out⟩
        | true =>
          cases z4 : (na == nb) with
          | false =>
            have hv := Tryd.eqlVal va vb
            rw [z1] at hv
            have HZ := Lib.hid (show sameE (Ex.mk opa va rela cola na sa la) (Ex.mk opb vb relb colb nb sb lb) = false by rw [sameE, z0, z1, z2, z3, z4]; rfl)
            go_wp2_with fail
            refine bodyPost_ret (v := .bool false) (by simp [results, Tryd.results33, go_sem]) rfl ⟨by rw [HZ.out], HB.out⟩
          | true =>
            go_wp2_with fail
            refine (eqFunc_any la lb h2 (fun y hy => HI.out y hy) qa qb ca cb R W HLA.out HLB.out HS.out).mono ?_
            rintro e Y ⟨he, hb⟩
            have HY := Lib.hid (HB.out.trans (hb.mono HB.out.size))
            obtain ⟨t, ht⟩ : ∃ t, t = sameL la lb := ⟨_, rfl⟩
            rw [← ht] at he
            have HT := Lib.hid ht
            clear ht hb c0 c1 c2 c3 c4 c5 c6 c7 c8 d0 d1 d2 d3 d4 d5 d6 d7 d8 lt lt' cR lR
            subst he
            go_wp2_with fail
            refine bodyPost_ret (v := .bool t) (by simp [results, Tryd.results33, go_sem]) rfl ⟨by rw [sameE, z0, z1, z2, z3, z4, HT.out]; rfl, HY.out⟩

theorem eqC_any : ∀ (k : Nat) (x : Ex), x.deep ≤ k → x.okAll = true → EqC x
  | 0, x, h, _ => absurd (deep_pos x) (by omega)
  | k + 1, .mk op v rel col n s l, h, ho => by
    rw [Ex.okAll, Bool.and_eq_true] at ho
    exact eqC_mk op v rel col n s l (head_two ho.1) fun y hy => eqC_any k y (by rw [Ex.deep] at h; have := deepL_of_mem hy; omega) (by obtain ⟨i, hi, he⟩ := List.getElem_of_mem hy; exact okL_all ho.2 (i := i) (by rw [List.getElem?_eq_getElem hi, he]))

set_option maxHeartbeats 8000000 in
theorem dsame_any (x y : Ex) (cs ds : List Value) (w : World) (hx : ExM w x cs) (hy : ExM w y ds) (hG : GE w) : Calls Tryd.prog 12 #[.agg cs.toArray, .agg ds.toArray] w fun e w' => e = .returned (.bool (sameB x y)) ∧ Below w.heap.size w w' := by
  have HX := Lib.hid hx
  have HY := Lib.hid hy
  have HC := Lib.hid (fun h => eqC_any _ x (Nat.le_refl _) h)
  obtain ⟨opa, va, rela, cola, na, sa, la⟩ := x
  obtain ⟨opb, vb, relb, colb, nb, sb, lb⟩ := y
  rw [ExM.iff] at hx hy
  obtain ⟨-, qa, ca, rfl, -, -⟩ := hx
  obtain ⟨-, qb, cb, rfl, -, -⟩ := hy
  obtain ⟨na', hna⟩ : ∃ n, n = la.length := ⟨_, rfl⟩
  obtain ⟨nb', hnb⟩ : ∃ n, n = lb.length := ⟨_, rfl⟩
  rw [← hna] at HX ⊢
  rw [← hnb] at HY ⊢
  clear hna hnb
  have EA0 := EB.new w opa va rela cola na sa qa na' ca 26
  obtain ⟨W1, hW1⟩ : ∃ W1, W1 = w.alloc (.cells (exCells opa va rela cola na sa qa na' ca).toArray 26) := ⟨_, rfl⟩
  rw [← hW1] at EA0
  have EB0 := EB.new W1 opb vb relb colb nb sb qb nb' cb 26
  have EA1 := EA0.on (ext_alloc (ext_refl W1) (.cells (exCells opb vb relb colb nb sb qb nb' cb).toArray 26))
  obtain ⟨W2, hW2⟩ : ∃ W, W = W1.alloc (.cells (exCells opb vb relb colb nb sb qb nb' cb).toArray 26) := ⟨_, rfl⟩
  rw [← hW2] at EB0 EA1
  have hz1 : W1.heap.size = w.heap.size + 1 := by rw [hW1]; simp
  have hz2 : W2.heap.size = w.heap.size + 1 + 1 := by rw [hW2]; simp [hz1]
  rw [hz1] at EB0
  have HW := Lib.hid (show W2 = (w.alloc (.cells (exCells opa va rela cola na sa qa na' ca).toArray 26)).alloc (.cells (exCells opb vb relb colb nb sb qb nb' cb).toArray 26) by rw [hW2, hW1])
  have hb2 : Below w.heap.size w W2 := by rw [hW2, hW1]; (repeat (first | exact ext_refl _ | assumption | (refine ext_alloc ?_ _) | (refine ext_drewN ?_ _) | refine ext_drew ?_ | (refine ext_set (by first | (simp; done) | (simp; omega)) _ ?_) | (refine ext_trans ?_ (by assumption))))
  obtain ⟨R, hR⟩ : ∃ R, R = w.heap.size + 1 + 1 := ⟨_, rfl⟩
  obtain ⟨W, hW⟩ : ∃ W, W = W2.alloc (.cells #[.func (.func 33) #[] #[.pointer (some ⟨R, 0, none⟩)]] 36) := ⟨_, rfl⟩
  have bW : Below W2.heap.size W2 W := by rw [hW]; (repeat (first | exact ext_refl _ | assumption | (refine ext_alloc ?_ _) | (refine ext_drewN ?_ _) | refine ext_drew ?_ | (refine ext_set (by first | (simp; done) | (simp; omega)) _ ?_) | (refine ext_trans ?_ (by assumption))))
  have EA := EA1.on bW
  have EC := EB0.on bW
  have hS : SC W R := ⟨by rw [hW, hR, ← hz2]; simp [go_sem], by rw [hW, hR, ← hz2]; simp⟩
  have hb : Below w.heap.size w W := hb2.trans (bW.mono hb2.size)
  have HB := Lib.hid hb
  have HG := Lib.hid (hG.on hb)
  have HXW := Lib.hid (ExM.ext hb _ _ HX.out)
  have HYW := Lib.hid (ExM.ext hb _ _ HY.out)
  have HS := Lib.hid hS
  have HWW := Lib.hid hW
  have Hz2 := Lib.hid (hR.trans hz2.symm)
  have HEA := Lib.hid EA
  have HEC := Lib.hid EC
  clear hb hb2 hW hW1 hW2 EA0 EA1 EB0 hS hz1 hz2 bW hG HX HY
  go_enter Tryd.func12, Tryd.ntmps12
  go_upto_region 1 with fail
  rw [← HW.out]
  clear HW
  obtain ⟨g, hg⟩ : ∃ g, g = w.heap.size := ⟨_, rfl⟩
  rw [← hg] at hR EA EC HEA HEC ⊢
  go_upto_region 3 with fail
  rw [← Hz2.out, ← HWW.out]
  clear HWW Hz2
  have HR0 := Lib.hid hR
  have HG0 := Lib.hid hg
  clear hR hg
  obtain ⟨lt, c0, c1, c2, c3, c4, c5, c6, c7, c8⟩ := EA
  obtain ⟨h, hh⟩ : ∃ h, h = g + 1 := ⟨_, rfl⟩
  rw [← hh] at EC HEC ⊢
  clear hh
  obtain ⟨lt', d0, d1, d2, d3, d4, d5, d6, d7, d8⟩ := EC
  have cR := HS.out.cR
  have lR := HS.out.lR
  go_wp2_with fail
  refine (dright_any _ _ W HXW.out HG.out).mono ?_
  rintro e X ⟨he, hbX⟩
  have HBX := Lib.hid (HB.out.trans (hbX.mono HB.out.size))
  have EA := HEA.out.on hbX
  have EC := HEC.out.on hbX
  have hS := HS.out.on hbX
  have HGX := Lib.hid (HG.out.on hbX)
  have HXX := Lib.hid (ExM.ext hbX _ _ HXW.out)
  have HYX := Lib.hid (ExM.ext hbX _ _ HYW.out)
  have HSX := Lib.hid hS
  have HEAX := Lib.hid EA
  have HECX := Lib.hid EC
  clear c0 c1 c2 c3 c4 c5 c6 c7 c8 lt lt' d0 d1 d2 d3 d4 d5 d6 d7 d8 cR lR hbX HS HG HXW HYW HEA HEC HB
  obtain ⟨lt, c0, c1, c2, c3, c4, c5, c6, c7, c8⟩ := EA
  obtain ⟨lt', d0, d1, d2, d3, d4, d5, d6, d7, d8⟩ := EC
  have cR := hS.cR
  have lR := hS.lR
  clear hS
  cases r1 : rightE (Ex.mk opa va rela cola na sa la) with
  | false =>
    have HQ := Lib.hid (show sameB (Ex.mk opa va rela cola na sa la) (Ex.mk opb vb relb colb nb sb lb) = false by rw [sameB, r1]; rfl)
    rw [r1] at he
    clear r1
    subst he
    go_wp2_with fail
    refine bodyPost_ret (v := .bool false) (by simp [results, Tryd.results12, go_sem]) rfl ⟨by rw [HQ.out], HBX.out⟩
  | true =>
    have HR1 := Lib.hid r1
    rw [r1] at he
    clear r1
    subst he
    go_wp2_with fail
    refine (dright_any _ _ X HYX.out HGX.out).mono ?_
    rintro e Y ⟨he, hbY⟩
    have HBY := Lib.hid (HBX.out.trans (hbY.mono HBX.out.size))
    have EA := HEAX.out.on hbY
    have EC := HECX.out.on hbY
    have hS := HSX.out.on hbY
    have HXY := Lib.hid (ExM.ext hbY _ _ HXX.out)
    have HYY := Lib.hid (ExM.ext hbY _ _ HYX.out)
    have HSY := Lib.hid hS
    clear c0 c1 c2 c3 c4 c5 c6 c7 c8 lt lt' d0 d1 d2 d3 d4 d5 d6 d7 d8 cR lR hbY HSX HGX HXX HYX HEAX HECX HBX
    obtain ⟨lt, c0, c1, c2, c3, c4, c5, c6, c7, c8⟩ := EA
    obtain ⟨lt', d0, d1, d2, d3, d4, d5, d6, d7, d8⟩ := EC
    have cR := hS.cR
    have lR := hS.lR
    clear hS
    cases r2 : rightE (Ex.mk opb vb relb colb nb sb lb) with
    | false =>
      have HQ := Lib.hid (show sameB (Ex.mk opa va rela cola na sa la) (Ex.mk opb vb relb colb nb sb lb) = false by rw [sameB, HR1.out, r2]; rfl)
      rw [r2] at he
      clear r2
      subst he
      go_wp2_with fail
      refine bodyPost_ret (v := .bool false) (by simp [results, Tryd.results12, go_sem]) rfl ⟨by rw [HQ.out], HBY.out⟩
    | true =>
      have HR2 := Lib.hid r2
      rw [r2] at he
      clear r2
      subst he
      go_wp2_with fail
      refine (HC.out (rightE_parts HR1.out).1 _ Y _ _ R HXY.out HYY.out HSY.out).mono ?_
      rintro e Z ⟨he, hbZ⟩
      have HBZ := Lib.hid (HBY.out.trans (hbZ.mono HBY.out.size))
      obtain ⟨t, ht⟩ : ∃ t, t = sameE (Ex.mk opa va rela cola na sa la) (Ex.mk opb vb relb colb nb sb lb) := ⟨_, rfl⟩
      rw [← ht] at he
      have HQ := Lib.hid (show sameB (Ex.mk opa va rela cola na sa la) (Ex.mk opb vb relb colb nb sb lb) = t by rw [sameB, HR1.out, HR2.out, ht]; rfl)
      clear ht hbZ c0 c1 c2 c3 c4 c5 c6 c7 c8 lt lt' d0 d1 d2 d3 d4 d5 d6 d7 d8 cR lR
      subst he
      go_wp2_with fail
      refine bodyPost_ret (v := .bool t) (by simp [results, Tryd.results12, go_sem]) rfl ⟨by rw [HQ.out], HBZ.out⟩

end Go.Proofs.YtiidfghdmaipoaaDoor
