/- The reference's split, Split. WRITTEN by wip/make/tlsplit.py. ExprTells: the walk. WRITTEN by wip/make/tlsplit.py's second half (tltells.py). -/
import Derived.Test.YtiidfghdmaipoaaDoorSpD
import Derived.Test.YtiidfghdmaipoaaDoorDgE
import Derived.Test.YtiidfghdmaipoaaDoorEvQ
import Derived.Test.YtiidfghdmaipoaaDoorExT
import Derived.Test.YtiidfghdmaipoaaDoorDvS
import Derived.Test.YtiidfghdmaipoaaDoorDvD
import Derived.Test.YtiidfghdmaipoaaDoorAfter
namespace Go.Proofs.YtiidfghdmaipoaaDoor
open Go.RowKit Go.Deep
set_option maxRecDepth 100000

/-- The parts of a list, as their cells say them; their operands lie in blocks older than b. -/
def RS2 (w : World) (b : Nat) (K : List RawE) (L : List Ex) : Prop := K.length = L.length ∧ ∀ (j : Nat) (r : RawE) (y : Ex), K[j]? = some r → L[j]? = some y → ExMP w (fun k => k < b) y r.cells
theorem RS2.on {w w' : World} {b : Nat} {K : List RawE} {L : List Ex} (h : RS2 w b K L) (hb : Below b w w') (_ : b ≤ w.heap.size) : RS2 w' b K L :=
  ⟨h.1, fun j r y hr hy => ExMP.on (Nat.le_trans hb.size (Nat.le_refl _)) (fun g hg _ => hb.block g hg) (fun _ hg _ => hg) _ _ (h.2 j r y hr hy)⟩
theorem RS2.app {w : World} {b : Nat} {K K' : List RawE} {L L' : List Ex} (h : RS2 w b K L) (h' : RS2 w b K' L') : RS2 w b (K ++ K') (L ++ L') := by
  refine ⟨by rw [List.length_append, List.length_append, h.1, h'.1], fun j r y hr hy => ?_⟩
  by_cases hj : j < K.length
  · rw [List.getElem?_append_left hj] at hr
    rw [List.getElem?_append_left (by rw [← h.1]; exact hj)] at hy
    exact h.2 j r y hr hy
  · rw [List.getElem?_append_right (by omega)] at hr
    rw [List.getElem?_append_right (by rw [← h.1]; omega), ← h.1] at hy
    exact h'.2 _ r y hr hy
theorem OwnE.src {w : World} {b : Nat} {q : Option Addr} {n c : Nat} {K : List RawE} (h : OwnE w b (.slice q n c) K) : ArrA b w.heap.size q 9 K (fun g o r => ∀ (k : Nat) u, r.cells[k]? = some u → w.cell? ⟨g, o + k, none⟩ = some u) := by
  obtain ⟨q', c', e, -, -, -, h6⟩ := OwnF.arr RawE.cells_len h
  simp only [Value.slice.injEq] at e
  obtain ⟨rfl, -, -⟩ := e
  exact h6
theorem len_cap {w w' : World} {b : Nat} {K K' : List RawE} {L L' : List Ex} (h : RS2 w b K L) (h' : RS2 w' b K' L') (hc : L.length + L'.length ≤ 400) : K.length + K'.length ≤ maxLen ∧ (K.length + K'.length) * 104 ≤ 140737488355328 := by
  rw [h.1, h'.1]
  unfold maxLen
  omega
abbrev RSp (x : Ex) : Prop := ∀ (w : World) (cs : List Value) (b : Nat), b ≤ w.heap.size → ExMP w (fun k => k < b) x cs → Calls Tryd.prog 29 #[.agg cs.toArray] w fun e w' =>
  (∃ q c K, e = .returned (.slice q K.length c) ∧ OwnE w' w.heap.size (.slice q K.length c) K ∧ RS2 w' b K x.split) ∧ Below w.heap.size w w'
theorem OwnE.one (w : World) (r : RawE) : OwnE (w.alloc (.cells r.cells.toArray 26)) w.heap.size (.slice (some ⟨w.heap.size, 0, none⟩) 1 1) [r] :=
  ⟨by simp, .inr ⟨w.heap.size, 1, r.cells.toArray, rfl, Nat.le_refl _, heap_alloc_new w _, Nat.le_refl _, by decide, by simp, by simp⟩⟩

set_option maxHeartbeats 4000000 in
theorem rsplit_other (op : Int) (v : Val) (rel col n : Int) (s : ByteArray) (l : List Ex) (h15 : op ≠ 15) : RSp (.mk op v rel col n s l) := by
  intro w cs b hbw hx
  have HX := Lib.hid hx
  have HBW := Lib.hid hbw
  rw [ExMP.iff] at hx
  obtain ⟨-, q, c, rfl, -, -⟩ := hx
  have HSO := Lib.hid (split_other (v := v) (rel := rel) (col := col) (n := n) (s := s) (l := l) h15)
  have n15 : (op != 15) = true := by simpa using h15
  obtain ⟨len, hlen⟩ : ∃ len, len = l.length := ⟨_, rfl⟩
  rw [← hlen] at HX ⊢
  clear hlen h15 hbw
  have E0 := EB.new w op v rel col n s q len c 26
  have B0 : Below w.heap.size w (w.alloc (.cells (exCells op v rel col n s q len c).toArray 26)) := ext_alloc (ext_refl _) _
  obtain ⟨W, hW⟩ : ∃ W, W = w.alloc (.cells (exCells op v rel col n s q len c).toArray 26) := ⟨_, rfl⟩
  rw [← hW] at E0 B0
  go_enter Tryd.func29, Tryd.ntmps29
  go_upto_region 1 with fail
  rw [← hW]
  clear hW
  obtain ⟨g, hg⟩ : ∃ g, g = w.heap.size := ⟨_, rfl⟩
  have HB := Lib.hid B0
  have HGW := Lib.hid hg
  rw [← hg] at E0
  rw [← hg]
  clear B0 hg
  have HE := Lib.hid E0
  obtain ⟨lt, c0, c1, c2, c3, c4, c5, c6, c7, c8⟩ := E0
  go_wp2_with fail
  obtain ⟨v, vn, vs⟩ := v
  have O := OwnE.one W ⟨op, ⟨v, vn, vs⟩, rel, col, n, s, q, len, c⟩
  have hb : Below W.heap.size W (W.alloc (.cells (exCells op ⟨v, vn, vs⟩ rel col n s q len c).toArray 26)) := ext_alloc (ext_refl _) _
  have HX2 := Lib.hid (HX.out.below HB.out)
  refine bodyPost_ret (v := .slice (some ⟨W.heap.size, 0, none⟩) 1 1) (by simp [results, Tryd.results29, go_sem]) rfl ⟨⟨some ⟨W.heap.size, 0, none⟩, 1, [⟨op, ⟨v, vn, vs⟩, rel, col, n, s, q, len, c⟩], rfl, O.base_le HB.out.size, ?_⟩, HB.out.trans (hb.mono HB.out.size)⟩
  rw [HSO.out]
  refine ⟨rfl, fun j r y hr hy => ?_⟩
  have hj : j = 0 := by have := (List.getElem?_eq_some_iff.1 hr).1; simp at this; omega
  subst hj
  simp only [List.getElem?_cons_zero, Option.some.injEq] at hr hy
  subst hr hy
  exact ExMP.on hb.size (fun k _ hk => hb.block k hk) (fun _ h _ => h) _ _ HX2.out

set_option maxHeartbeats 16000000 in
theorem rsplit_and (v : Val) (rel col n : Int) (s : ByteArray) (y0 y1 : Ex) (IH0 : RSp y0) (IH1 : RSp y1) (hcn : y0.split.length + y1.split.length ≤ 400) : RSp (.mk 15 v rel col n s [y0, y1]) := by
  intro w cs b hbw hx
  have HBW := Lib.hid hbw
  have HCN := Lib.hid hcn
  have HI0 := Lib.hid IH0
  have HI1 := Lib.hid IH1
  rw [ExMP.iff] at hx
  obtain ⟨-, q, c, rfl, -, hl⟩ := hx
  have HSO := Lib.hid (show (Ex.mk 15 v rel col n s [y0, y1]).split = y0.split ++ y1.split by rw [Ex.split, if_pos rfl])
  have HL := Lib.hid hl
  clear hl hcn IH0 IH1 hbw
  simp only [List.length_cons, List.length_nil, Nat.zero_add, Nat.reduceAdd]
  have b15 : ((15 : Int) != 15) = false := rfl
  have E0 := EB.new w 15 v rel col n s q 2 c 26
  have B0 : Below w.heap.size w (w.alloc (.cells (exCells 15 v rel col n s q 2 c).toArray 26)) := ext_alloc (ext_refl _) _
  obtain ⟨W, hW⟩ : ∃ W, W = w.alloc (.cells (exCells 15 v rel col n s q 2 c).toArray 26) := ⟨_, rfl⟩
  rw [← hW] at E0 B0
  go_enter Tryd.func29, Tryd.ntmps29
  go_upto_region 1 with fail
  rw [← hW]
  clear hW
  obtain ⟨g, hg⟩ : ∃ g, g = w.heap.size := ⟨_, rfl⟩
  have HB := Lib.hid B0
  rw [← hg] at E0
  rw [← hg]
  clear B0 hg
  have HE := Lib.hid E0
  obtain ⟨lt, c0, c1, c2, c3, c4, c5, c6, c7, c8⟩ := E0
  have HLW := Lib.hid (ExLP.on HB.out.size (fun k _ hk => HB.out.block k hk) (fun _ h _ => h) _ _ _ HL.out)
  go_upto_region 3 with fail
  obtain ⟨U, hU⟩ : ∃ U, U = W := ⟨_, rfl⟩
  rw [← hU] at HLW lt c8 HE HB ⊢
  clear c0 c1 c2 c3 c4 c5 c6 c7 hU
  have hl_ := ExLP.at_ (j := 0) (x := y0) HLW.out rfl
  obtain ⟨g0, off0, cs0, hq0, lg0, hp0, hx0, hcell⟩ := hl_
  subst hq0
  have hl2 := ExLP.at_ (j := 1) (x := y1) HLW.out rfl
  obtain ⟨g1, off1, cs1, hq1, _, hp1, hx1, hcell2⟩ := hl2
  obtain ⟨rfl, rfl⟩ : g0 = g1 ∧ off0 = off1 := by cases hq1; exact ⟨rfl, rfl⟩
  clear hq1
  have HX0 := Lib.hid hx0
  have HX1 := Lib.hid hx1
  obtain ⟨r0, rfl⟩ := hx0.raw
  obtain ⟨r1, rfl⟩ := hx1.raw
  clear hx0 hx1
  obtain ⟨op1, ⟨vk1, vn1, vs1⟩, rel1, col1, n1, s1, q1, l1, c1⟩ := r0
  obtain ⟨op2, ⟨vk2, vn2, vs2⟩, rel2, col2, n2, s2, q2, l2, c2⟩ := r1
  have f0 := hcell 0 _ rfl
  have f1 := hcell 1 _ rfl
  have f2 := hcell 2 _ rfl
  have f3 := hcell 3 _ rfl
  have f4 := hcell 4 _ rfl
  have f5 := hcell 5 _ rfl
  have f6 := hcell 6 _ rfl
  have f7 := hcell 7 _ rfl
  have f8 := hcell 8 _ rfl
  have h0 := hcell2 0 _ rfl
  have h1 := hcell2 1 _ rfl
  have h2 := hcell2 2 _ rfl
  have h3 := hcell2 3 _ rfl
  have h4 := hcell2 4 _ rfl
  have h5 := hcell2 5 _ rfl
  have h6 := hcell2 6 _ rfl
  have h7 := hcell2 7 _ rfl
  have h8 := hcell2 8 _ rfl
  simp only [Nat.zero_mul, Nat.add_zero, Nat.zero_add, Nat.one_mul] at f0 f1 f2 f3 f4 f5 f6 f7 f8 h0 h1 h2 h3 h4 h5 h6 h7 h8
  clear hcell hcell2
  have hS : ∀ W', Below U.heap.size U W' → (fun W' : World => W'.cell? ⟨g, 8, none⟩ = some (.slice (some ⟨g0, off0, none⟩) 2 c) ∧ W'.cell? ⟨g0, off0, none⟩ = some (.int .i64 op1) ∧ W'.cell? ⟨g0, off0 + 1, none⟩ = some (.int .i64 vk1) ∧ W'.cell? ⟨g0, off0 + 2, none⟩ = some (.int .i64 vn1) ∧ W'.cell? ⟨g0, off0 + 3, none⟩ = some (.string vs1) ∧ W'.cell? ⟨g0, off0 + 4, none⟩ = some (.int .i64 rel1) ∧ W'.cell? ⟨g0, off0 + 5, none⟩ = some (.int .i64 col1) ∧ W'.cell? ⟨g0, off0 + 6, none⟩ = some (.int .i64 n1) ∧ W'.cell? ⟨g0, off0 + 7, none⟩ = some (.string s1) ∧ W'.cell? ⟨g0, off0 + 8, none⟩ = some (.slice q1 l1 c1) ∧ W'.cell? ⟨g0, off0 + 9, none⟩ = some (.int .i64 op2) ∧ W'.cell? ⟨g0, off0 + 9 + 1, none⟩ = some (.int .i64 vk2) ∧ W'.cell? ⟨g0, off0 + 9 + 2, none⟩ = some (.int .i64 vn2) ∧ W'.cell? ⟨g0, off0 + 9 + 3, none⟩ = some (.string vs2) ∧ W'.cell? ⟨g0, off0 + 9 + 4, none⟩ = some (.int .i64 rel2) ∧ W'.cell? ⟨g0, off0 + 9 + 5, none⟩ = some (.int .i64 col2) ∧ W'.cell? ⟨g0, off0 + 9 + 6, none⟩ = some (.int .i64 n2) ∧ W'.cell? ⟨g0, off0 + 9 + 7, none⟩ = some (.string s2) ∧ W'.cell? ⟨g0, off0 + 9 + 8, none⟩ = some (.slice q2 l2 c2)) W' := fun W' hb => ⟨(hb.cell (p := ⟨g, _, none⟩) lt).trans c8, (hb.cell (p := ⟨g0, _, none⟩) lg0).trans f0, (hb.cell (p := ⟨g0, _, none⟩) lg0).trans f1, (hb.cell (p := ⟨g0, _, none⟩) lg0).trans f2, (hb.cell (p := ⟨g0, _, none⟩) lg0).trans f3, (hb.cell (p := ⟨g0, _, none⟩) lg0).trans f4, (hb.cell (p := ⟨g0, _, none⟩) lg0).trans f5, (hb.cell (p := ⟨g0, _, none⟩) lg0).trans f6, (hb.cell (p := ⟨g0, _, none⟩) lg0).trans f7, (hb.cell (p := ⟨g0, _, none⟩) lg0).trans f8, (hb.cell (p := ⟨g0, _, none⟩) lg0).trans h0, (hb.cell (p := ⟨g0, _, none⟩) lg0).trans h1, (hb.cell (p := ⟨g0, _, none⟩) lg0).trans h2, (hb.cell (p := ⟨g0, _, none⟩) lg0).trans h3, (hb.cell (p := ⟨g0, _, none⟩) lg0).trans h4, (hb.cell (p := ⟨g0, _, none⟩) lg0).trans h5, (hb.cell (p := ⟨g0, _, none⟩) lg0).trans h6, (hb.cell (p := ⟨g0, _, none⟩) lg0).trans h7, (hb.cell (p := ⟨g0, _, none⟩) lg0).trans h8⟩
  have HS := Lib.hid hS
  have HD := Lib.hid ((Below.refl U.heap.size U).drew)
  have SA := Lib.hid (hS _ HD.out)
  have HUB := Lib.hid (show b ≤ U.heap.size from Nat.le_trans HBW.out HB.out.size)
  have HUBD := Lib.hid (show b ≤ U.drew.heap.size from HUB.out)
  have HX0D := Lib.hid (HX0.out.below HD.out)
  have HX1D := Lib.hid (HX1.out.below HD.out)
  clear hS hp0 hp1 lg0 lt c8 f0 f1 f2 f3 f4 f5 f6 f7 f8 h0 h1 h2 h3 h4 h5 h6 h7 h8
  go_region_held3 (fun W' => W'.cell? ⟨g, 8, none⟩ = some (.slice (some ⟨g0, off0, none⟩) 2 c) ∧ W'.cell? ⟨g0, off0, none⟩ = some (.int .i64 op1) ∧ W'.cell? ⟨g0, off0 + 1, none⟩ = some (.int .i64 vk1) ∧ W'.cell? ⟨g0, off0 + 2, none⟩ = some (.int .i64 vn1) ∧ W'.cell? ⟨g0, off0 + 3, none⟩ = some (.string vs1) ∧ W'.cell? ⟨g0, off0 + 4, none⟩ = some (.int .i64 rel1) ∧ W'.cell? ⟨g0, off0 + 5, none⟩ = some (.int .i64 col1) ∧ W'.cell? ⟨g0, off0 + 6, none⟩ = some (.int .i64 n1) ∧ W'.cell? ⟨g0, off0 + 7, none⟩ = some (.string s1) ∧ W'.cell? ⟨g0, off0 + 8, none⟩ = some (.slice q1 l1 c1) ∧ W'.cell? ⟨g0, off0 + 9, none⟩ = some (.int .i64 op2) ∧ W'.cell? ⟨g0, off0 + 9 + 1, none⟩ = some (.int .i64 vk2) ∧ W'.cell? ⟨g0, off0 + 9 + 2, none⟩ = some (.int .i64 vn2) ∧ W'.cell? ⟨g0, off0 + 9 + 3, none⟩ = some (.string vs2) ∧ W'.cell? ⟨g0, off0 + 9 + 4, none⟩ = some (.int .i64 rel2) ∧ W'.cell? ⟨g0, off0 + 9 + 5, none⟩ = some (.int .i64 col2) ∧ W'.cell? ⟨g0, off0 + 9 + 6, none⟩ = some (.int .i64 n2) ∧ W'.cell? ⟨g0, off0 + 9 + 7, none⟩ = some (.string s2) ∧ W'.cell? ⟨g0, off0 + 9 + 8, none⟩ = some (.slice q2 l2 c2)) (first | with_reducible exact SA.out | with_reducible exact SB.out | with_reducible exact SC.out | with_reducible exact SE.out)
    (first
      | (go_at_call 29; ((with_reducible refine (HI0.out U.drew _ b HUBD.out HX0D.out).mono ?_); rintro e Y0 ⟨⟨qa, ca, Ka, rfl, oa, ra⟩, hbb⟩; have OA := Lib.hid oa; have RA := Lib.hid ra; have BY := Lib.hid hbb; have SB := Lib.hid (HS.out _ (HD.out.trans (hbb.mono HD.out.size))); have HX1Y := Lib.hid (HX1D.out.below hbb); clear oa ra hbb))
      | (go_at_call 29; ((with_reducible refine (HI1.out Y0 _ b (Nat.le_trans HUBD.out BY.out.size) HX1Y.out).mono ?_); rintro e Z0 ⟨⟨qb, cb, Kb, rfl, ob, rb⟩, hbb⟩; have BZ := Lib.hid (HD.out.trans ((BY.out.trans (hbb.mono BY.out.size)).mono HD.out.size)); have OAZ := Lib.hid ((OA.out.later hbb).base_le (HD.out.size)); have OBZ := Lib.hid (ob.base_le (Nat.le_trans HD.out.size BY.out.size)); have RAZ := Lib.hid (RA.out.on (hbb.mono (Nat.le_trans HUB.out BY.out.size)) (Nat.le_trans HUB.out BY.out.size)); have RBZ := Lib.hid rb; have SC := Lib.hid (HS.out _ BZ.out); clear ob rb hbb))
      | (go_at_call 29; ((with_reducible refine (HI1.out U.drew _ b HUBD.out HX1D.out).mono ?_); rintro e Y1 ⟨⟨qb, cb, Kb, rfl, ob, rb⟩, hbb⟩; have OB := Lib.hid ob; have RB := Lib.hid rb; have BY := Lib.hid hbb; have SB := Lib.hid (HS.out _ (HD.out.trans (hbb.mono HD.out.size))); have HX0Y := Lib.hid (HX0D.out.below hbb); clear ob rb hbb))
      | (go_at_call 29; ((with_reducible refine (HI0.out Y1 _ b (Nat.le_trans HUBD.out BY.out.size) HX0Y.out).mono ?_); rintro e Z0 ⟨⟨qa, ca, Ka, rfl, oa, ra⟩, hbb⟩; have BZ := Lib.hid (HD.out.trans ((BY.out.trans (hbb.mono BY.out.size)).mono HD.out.size)); have OAZ := Lib.hid (oa.base_le (Nat.le_trans HD.out.size BY.out.size)); have OBZ := Lib.hid ((OB.out.later hbb).base_le HD.out.size); have RBZ := Lib.hid (RB.out.on (hbb.mono (Nat.le_trans HUB.out BY.out.size)) (Nat.le_trans HUB.out BY.out.size)); have RAZ := Lib.hid ra; have SC := Lib.hid (HS.out _ BZ.out); clear oa ra hbb))
      | (refine step_append_flat rfl _ _ 24 26 rfl Tryd.underlying24 _ 104 Tryd.infoExpr8 rfl (by omega) RawE.cells_len RawE.cells_one U.heap.size (.slice qa Ka.length ca) Ka rfl OAZ.out qb Kb.length cb Kb rfl rfl U.heap.size Z0.heap.size (OwnE.src OBZ.out) (len_cap RAZ.out RBZ.out HCN.out).1 (len_cap RAZ.out RBZ.out HCN.out).2 BZ.out.size ?_; intro qz cz V oz bz ouz owz; have OZ := Lib.hid oz; have BV := Lib.hid bz; have SE := Lib.hid (HS.out _ (BZ.out.trans bz)); clear oz bz ouz owz))
  all_goals
    go_wp2_with fail
    refine bodyPost_ret (v := .slice qz (Ka ++ Kb).length cz) (by simp [results, Tryd.results29, go_sem]) rfl ⟨⟨qz, cz, Ka ++ Kb, rfl, OZ.out.base_le HB.out.size, ?_⟩, HB.out.trans ((BZ.out.trans BV.out).mono HB.out.size)⟩
    rw [HSO.out]
    exact (RAZ.out.app RBZ.out).on (BV.out.mono HUB.out) (Nat.le_trans HUB.out BZ.out.size)

theorem rsplit_any : ∀ (k : Nat) (x : Ex), x.deep ≤ k → x.okAll = true → x.count ≤ 200 → RSp x
  | 0, x, h, _, _ => absurd (deep_pos x) (by omega)
  | k + 1, .mk op v rel col n s l, h, ho, hc => by
    by_cases h15 : op = 15
    · subst h15
      have ho' := ho
      rw [Ex.okAll, Bool.and_eq_true] at ho'
      have h1 := (head_parts ho'.1).1
      rcases l with _ | ⟨y0, _ | ⟨y1, _ | ⟨y2, t⟩⟩⟩
      · simp [wantsOf] at h1
      · simp [wantsOf] at h1
      · rw [Ex.deep, deepL, deepL, deepL] at h
        rw [Ex.count, countL, countL, countL] at hc
        have h2 := ho'.2
        rw [okL, okL, okL, Bool.and_true, Bool.and_eq_true] at h2
        have k0 := split_count k y0 (by omega)
        have k1 := split_count k y1 (by omega)
        exact rsplit_and v rel col n s y0 y1 (rsplit_any k y0 (by omega) h2.1 (by omega)) (rsplit_any k y1 (by omega) h2.2 (by omega)) (by omega)
      · have h3 := head_two ho'.1
        simp only [List.length_cons] at h3
        omega
    · exact rsplit_other op v rel col n s l h15

set_option maxHeartbeats 4000000 in
theorem rSplit_any (x : Ex) (cs : List Value) (w : World) (hx : ExM w x cs) : Calls Tryd.prog 8 #[.agg cs.toArray] w fun e w' => (∃ q c, e = .returned (.slice q (splitR x).length c) ∧ ExL w' q 0 (splitR x)) ∧ Below w.heap.size w w' := by
  have HX := Lib.hid hx
  obtain ⟨op, v, rel, col, n, s, l⟩ := x
  rw [ExM.iff] at hx
  obtain ⟨-, q, c, rfl, -, -⟩ := hx
  obtain ⟨len, hlen⟩ : ∃ len, len = l.length := ⟨_, rfl⟩
  rw [← hlen] at HX ⊢
  clear hlen
  have E0 := EB.new w op v rel col n s q len c 26
  have B0 : Below w.heap.size w (w.alloc (.cells (exCells op v rel col n s q len c).toArray 26)) := ext_alloc (ext_refl _) _
  obtain ⟨W, hW⟩ : ∃ W, W = w.alloc (.cells (exCells op v rel col n s q len c).toArray 26) := ⟨_, rfl⟩
  rw [← hW] at E0 B0
  go_enter Tryd.func8, Tryd.ntmps8
  go_upto_region 1 with fail
  rw [← hW]
  clear hW
  obtain ⟨g, hg⟩ : ∃ g, g = w.heap.size := ⟨_, rfl⟩
  have HB := Lib.hid B0
  have HGW := Lib.hid hg
  rw [← hg] at E0
  rw [← hg]
  clear B0 hg
  have HE := Lib.hid E0
  obtain ⟨lt, c0, c1, c2, c3, c4, c5, c6, c7, c8⟩ := E0
  go_wp2_with fail
  refine (rightE_any _ _ W (ExM.ext HB.out _ _ HX.out)).mono ?_
  rintro e X ⟨he, hbX⟩
  have HBX := Lib.hid (HB.out.trans (hbX.mono HB.out.size))
  have HEX := Lib.hid (HE.out.on hbX)
  clear hbX lt c0 c1 c2 c3 c4 c5 c6 c7 c8
  obtain ⟨lt, c0, c1, c2, c3, c4, c5, c6, c7, c8⟩ := HEX.out
  cases hs : rightE (.mk op v rel col n s l) with
  | false =>
    have HQ := Lib.hid (show splitR (.mk op v rel col n s l) = [] by unfold splitR; rw [if_neg (by rw [hs]; decide)])
    rw [hs] at he
    clear hs
    subst he
    go_wp2_with fail
    refine bodyPost_ret (v := .slice none 0 0) (by simp [results, Tryd.results8, go_sem]) rfl ⟨?_, HBX.out⟩
    rw [HQ.out]
    exact ⟨none, 0, rfl, by rw [ExL]; trivial⟩
  | true =>
    have HQ := Lib.hid (show splitR (.mk op v rel col n s l) = (Ex.mk op v rel col n s l).split by unfold splitR; rw [if_pos hs])
    obtain ⟨k1, k2, k3⟩ := rightE_parts hs
    have HS := Lib.hid (rsplit_any _ (.mk op v rel col n s l) (Nat.le_refl _) k1 k3)
    rw [hs] at he
    clear hs k1 k2 k3
    subst he
    go_wp2_with fail
    refine (HS.out X _ X.heap.size (Nat.le_refl _) (ExM.toP _ _ (ExM.ext HBX.out _ _ HX.out))).mono ?_
    rintro e Y ⟨⟨qs, sc, K, rfl, ho, hr⟩, hbY⟩
    have HBY := Lib.hid (HBX.out.trans (hbY.mono HBX.out.size))
    have HO := Lib.hid ho
    have HR := Lib.hid hr
    clear ho hr hbY
    go_wp2_with fail
    refine bodyPost_ret (v := .slice qs K.length sc) (by simp [results, Tryd.results8, go_sem]) rfl ⟨⟨qs, sc, ?_, ?_⟩, HBY.out⟩
    · rw [HQ.out, ← HR.out.1]
    · rw [HQ.out]
      refine ExLP.toL (P := fun _ => True) _ _ _ (ExLP.of fun j y hy => ?_)
      have hj := (List.getElem?_eq_some_iff.1 hy).1
      have hjk : j < K.length := by rw [HR.out.1]; exact hj
      obtain ⟨gz, oz, hq, _, hg, hc⟩ := OwnE.src HO.out j hjk
      have hrr : K[j]? = some (K[j]'hjk) := List.getElem?_eq_getElem hjk
      refine ⟨gz, oz, _, hq, hg, trivial, ExMP.on (Nat.le_refl _) (fun _ _ _ => rfl) (fun _ _ _ => trivial) _ _ (HR.out.2 j _ y hrr hy), fun i u hu => ?_⟩
      have h7 := hc j _ hrr i u hu
      rw [Nat.zero_add]
      exact h7

end Go.Proofs.YtiidfghdmaipoaaDoor

namespace Go.Proofs.YtiidfghdmaipoaaDoor
open Go.RowKit Go.Deep
set_option maxRecDepth 100000

/-- What is joined by AND in a right expression is right, each. -/
theorem splitR_ok (x : Ex) : ∀ y ∈ splitR x, y.okAll = true ∧ y.count ≤ 200 := by
  intro y hy
  unfold splitR at hy
  split at hy
  · rename_i h
    obtain ⟨k1, _, k3⟩ := rightE_parts h
    obtain ⟨_, d2, d3⟩ := split_parts _ x (Nat.le_refl _) y hy
    exact ⟨(d3 k1).1, by omega⟩
  · cases hy

set_option maxHeartbeats 16000000 in
theorem exprTells_walk (x y : Ex) (cs ds : List Value) (w : World) (hx : ExM w x cs) (hy : ExM w y ds) (hG : GE w) : Calls Tryd.prog 3 #[.agg cs.toArray, .agg ds.toArray] w fun e w' => e = .returned (.bool true) ∧ Below w.heap.size w w' := by
  have HX := Lib.hid hx
  have HY := Lib.hid hy
  have HG := Lib.hid hG
  obtain ⟨opa, va, rela, cola, na, sa, la⟩ := x
  obtain ⟨opb, vb, relb, colb, nb, sb, lb⟩ := y
  rw [ExM.iff] at hx hy
  obtain ⟨-, qa, ca, rfl, -, -⟩ := hx
  obtain ⟨-, qb, cb, rfl, -, -⟩ := hy
  obtain ⟨lena, hla⟩ : ∃ len, len = la.length := ⟨_, rfl⟩
  obtain ⟨lenb, hlb⟩ : ∃ len, len = lb.length := ⟨_, rfl⟩
  rw [← hla] at HX ⊢
  rw [← hlb] at HY ⊢
  clear hla hlb hG
  have E0 := EB.new w opa va rela cola na sa qa lena ca 26
  obtain ⟨W1, hW1⟩ : ∃ W, W = w.alloc (.cells (exCells opa va rela cola na sa qa lena ca).toArray 26) := ⟨_, rfl⟩
  rw [← hW1] at E0
  have z1 : W1.heap.size = w.heap.size + 1 := by rw [hW1]; simp
  have F0 := EB.new W1 opb vb relb colb nb sb qb lenb cb 26
  obtain ⟨W, hW⟩ : ∃ W, W = W1.alloc (.cells (exCells opb vb relb colb nb sb qb lenb cb).toArray 26) := ⟨_, rfl⟩
  rw [← hW, z1] at F0
  have b1 : Below W1.heap.size W1 W := by rw [hW]; (repeat (first | exact ext_refl _ | assumption | (refine ext_alloc ?_ _) | (refine ext_drewN ?_ _) | refine ext_drew ?_ | (refine ext_set (by first | (simp; done) | (simp; omega)) _ ?_) | (refine ext_trans ?_ (by assumption))))
  have b : Below w.heap.size w W := by rw [hW, hW1]; (repeat (first | exact ext_refl _ | assumption | (refine ext_alloc ?_ _) | (refine ext_drewN ?_ _) | refine ext_drew ?_ | (refine ext_set (by first | (simp; done) | (simp; omega)) _ ?_) | (refine ext_trans ?_ (by assumption))))
  have HWW := Lib.hid (show W = (w.alloc (.cells (exCells opa va rela cola na sa qa lena ca).toArray 26)).alloc (.cells (exCells opb vb relb colb nb sb qb lenb cb).toArray 26) by rw [hW, hW1])
  have HA := Lib.hid (E0.on b1)
  have HB := Lib.hid F0
  have BW := Lib.hid b
  clear hW hW1 E0 F0 z1 b1 b
  go_enter Tryd.func3, Tryd.ntmps3
  go_upto_region 1 with fail
  rw [← HWW.out]
  clear HWW
  obtain ⟨g, hg⟩ : ∃ g, g = w.heap.size := ⟨_, rfl⟩
  rw [← hg] at HA HB ⊢
  clear hg
  have BW1 := BW
  have HA1 := HA
  have HB1 := HB
  clear BW HA HB
  go_wp2_with fail
  refine (examples_any W (HG.out.on BW1.out)).mono ?_
  rintro e W2 ⟨rfl, hb⟩
  have BW2 := Lib.hid (BW1.out.trans (hb.mono BW1.out.size))
  have HA2 := Lib.hid (HA1.out.on hb)
  have HB2 := Lib.hid (HB1.out.on hb)
  clear hb
  obtain ⟨lA, a0, a1, a2, a3, a4, a5, a6, a7, a8⟩ := HA2.out
  go_wp2_with fail
  refine (dtext_any (.mk opa va rela cola na sa la) _ W2 (ExM.ext BW2.out _ _ HX.out) (HG.out.on BW2.out)).mono ?_
  rintro e W3 ⟨rfl, hb⟩
  have BW3 := Lib.hid (BW2.out.trans (hb.mono BW2.out.size))
  have HA3 := Lib.hid (HA2.out.on hb)
  have HB3 := Lib.hid (HB2.out.on hb)
  clear hb lA a0 a1 a2 a3 a4 a5 a6 a7 a8
  obtain ⟨S, hS⟩ : ∃ S, S = bsB (textR (.mk opa va rela cola na sa la)).1 := ⟨_, rfl⟩
  obtain ⟨E, hE⟩ : ∃ E, E = (textR (.mk opa va rela cola na sa la)).2 := ⟨_, rfl⟩
  have HSE := Lib.hid hE
  have HSS := Lib.hid hS
  rw [← hS, ← hE]
  clear hS hE
  obtain ⟨lA, a0, a1, a2, a3, a4, a5, a6, a7, a8⟩ := HA3.out
  go_wp2_with fail
  refine (rtext_any (.mk opa va rela cola na sa la) _ W3 (ExM.ext BW3.out _ _ HX.out)).mono ?_
  rintro e W4 ⟨rfl, hb⟩
  have BW4 := Lib.hid (BW3.out.trans (hb.mono BW3.out.size))
  have HA4 := Lib.hid (HA3.out.on hb)
  have HB4 := Lib.hid (HB3.out.on hb)
  clear hb lA a0 a1 a2 a3 a4 a5 a6 a7 a8
  rw [← HSS.out]
  obtain ⟨RA, hRA⟩ : ∃ R, R = rightE (.mk opa va rela cola na sa la) := ⟨_, rfl⟩
  have HRA := Lib.hid hRA.symm
  rw [← hRA]
  clear hRA
  obtain ⟨lA, a0, a1, a2, a3, a4, a5, a6, a7, a8⟩ := HA4.out
  go_wp2_with fail
  refine (dsplit_any (.mk opa va rela cola na sa la) _ W4 (ExM.ext BW4.out _ _ HX.out) (HG.out.on BW4.out)).mono ?_
  rintro e W5 ⟨⟨qs, sc, rfl, hs1, hs2, hs3⟩, hb⟩
  have BW5 := Lib.hid (BW4.out.trans (hb.mono BW4.out.size))
  have HA5 := Lib.hid (HA4.out.on hb)
  have HB5 := Lib.hid (HB4.out.on hb)
  have HS5 := Lib.hid hs3
  have HSM5 := Lib.hid (Nat.le_trans hs1 hs2)
  clear hs1 hs2 hs3
  clear hb lA a0 a1 a2 a3 a4 a5 a6 a7 a8
  obtain ⟨lA, a0, a1, a2, a3, a4, a5, a6, a7, a8⟩ := HA5.out
  go_wp2_with fail
  refine (rSplit_any (.mk opa va rela cola na sa la) _ W5 (ExM.ext BW5.out _ _ HX.out)).mono ?_
  rintro e W6 ⟨⟨qr, rc, rfl, hr3⟩, hb⟩
  have BW6 := Lib.hid (BW5.out.trans (hb.mono BW5.out.size))
  have HA6 := Lib.hid (HA5.out.on hb)
  have HB6 := Lib.hid (HB5.out.on hb)
  have HS6 := Lib.hid (ExL.ext hb _ _ _ HS5.out)
  have HR6 := Lib.hid hr3
  clear hr3
  clear hb lA a0 a1 a2 a3 a4 a5 a6 a7 a8
  obtain ⟨sp, hsp⟩ : ∃ sp, sp = splitR (.mk opa va rela cola na sa la) := ⟨_, rfl⟩
  have HOK := Lib.hid (splitR_ok (.mk opa va rela cola na sa la))
  rw [← hsp] at HS6 HR6 HSM5 HOK ⊢
  clear hsp HS5
  go_wp2_with fail
  refine (lawexprs_any sp qs qr sc rc W6 HSM5.out HOK.out HS6.out HR6.out).mono ?_
  rintro e W7 ⟨rfl, hb⟩
  have BW7 := Lib.hid (BW6.out.trans (hb.mono BW6.out.size))
  have HA7 := Lib.hid (HA6.out.on hb)
  have HB7 := Lib.hid (HB6.out.on hb)
  clear hb
  have BW8 := BW7
  have HA8 := HA7
  have HB8 := HB7
  obtain ⟨W8, hW8⟩ : ∃ W8, W8 = W7 := ⟨_, rfl⟩
  rw [← hW8] at BW8 HA8 HB8 ⊢
  clear hW8 BW7 HA7 HB7 HS6 HR6 BW2 BW3 BW4 BW5 BW6 HA2 HA3 HA4 HA5 HA6 HB2 HB3 HB4 HB5 HB6 HA1 HB1 BW1
  obtain ⟨SM, hSM⟩ : ∃ R, R = sameB (.mk opa va rela cola na sa la) (.mk opb vb relb colb nb sb lb) := ⟨_, rfl⟩
  have HSM := Lib.hid hSM.symm
  obtain ⟨SF, hSF⟩ : ∃ R, R = (rightE (.mk opa va rela cola na sa la) && Ex.safe (.mk opa va rela cola na sa la)) := ⟨_, rfl⟩
  have HSF := Lib.hid hSF.symm
  obtain ⟨TB, hTB⟩ : ∃ R, R = tablesE (.mk opa va rela cola na sa la) := ⟨_, rfl⟩
  have HTB := Lib.hid hTB.symm
  have HSA := Lib.hid (show sameB (.mk opa va rela cola na sa la) (.mk opa va rela cola na sa la) = RA by unfold sameB; rw [HRA.out, same_refl]; simp)
  have HEE := Lib.hid (show E = if RA = true then 0 else 1 by rw [HSE.out, ← HRA.out]; unfold textR; split <;> rfl)
  clear hSM hSF hTB HSE HSS
  have C0 := Lib.hid (fun (x : After W8) => calls_after ((dright_any (.mk opa va rela cola na sa la) _ x.W (ExM.ext (BW8.out.trans (x.below.mono BW8.out.size)) _ _ HX.out) (HG.out.on (BW8.out.trans (x.below.mono BW8.out.size)))).mono (fun e w' h => (⟨by rw [h.1, HRA.out], h.2⟩ : e = .returned (.bool RA) ∧ Below x.W.heap.size x.W w'))))
  have C1 := Lib.hid (fun (x : After W8) => calls_after ((rightE_any (.mk opa va rela cola na sa la) _ x.W (ExM.ext (BW8.out.trans (x.below.mono BW8.out.size)) _ _ HX.out)).mono (fun e w' h => (⟨by rw [h.1, HRA.out], h.2⟩ : e = .returned (.bool RA) ∧ Below x.W.heap.size x.W w'))))
  have C2 := Lib.hid (fun (x : After W8) => calls_after ((dsame_any (.mk opa va rela cola na sa la) (.mk opb vb relb colb nb sb lb) _ _ x.W (ExM.ext (BW8.out.trans (x.below.mono BW8.out.size)) _ _ HX.out) (ExM.ext (BW8.out.trans (x.below.mono BW8.out.size)) _ _ HY.out) (HG.out.on (BW8.out.trans (x.below.mono BW8.out.size)))).mono (fun e w' h => (⟨by rw [h.1, HSM.out], h.2⟩ : e = .returned (.bool SM) ∧ Below x.W.heap.size x.W w'))))
  have C3 := Lib.hid (fun (x : After W8) => calls_after ((sameB_any (.mk opa va rela cola na sa la) (.mk opb vb relb colb nb sb lb) _ _ x.W (ExM.ext (BW8.out.trans (x.below.mono BW8.out.size)) _ _ HX.out) (ExM.ext (BW8.out.trans (x.below.mono BW8.out.size)) _ _ HY.out)).mono (fun e w' h => (⟨by rw [h.1, HSM.out], h.2⟩ : e = .returned (.bool SM) ∧ Below x.W.heap.size x.W w'))))
  have C4 := Lib.hid (fun (x : After W8) => calls_after ((dsame_any (.mk opa va rela cola na sa la) (.mk opa va rela cola na sa la) _ _ x.W (ExM.ext (BW8.out.trans (x.below.mono BW8.out.size)) _ _ HX.out) (ExM.ext (BW8.out.trans (x.below.mono BW8.out.size)) _ _ HX.out) (HG.out.on (BW8.out.trans (x.below.mono BW8.out.size)))).mono (fun e w' h => (⟨by rw [h.1, HSA.out], h.2⟩ : e = .returned (.bool RA) ∧ Below x.W.heap.size x.W w'))))
  have C5 := Lib.hid (fun (x : After W8) => calls_after ((dsafe_any (.mk opa va rela cola na sa la) _ x.W (ExM.ext (BW8.out.trans (x.below.mono BW8.out.size)) _ _ HX.out) (HG.out.on (BW8.out.trans (x.below.mono BW8.out.size)))).mono (fun e w' h => (⟨by rw [h.1, HSF.out], h.2⟩ : e = .returned (.bool SF) ∧ Below x.W.heap.size x.W w'))))
  have C6 := Lib.hid (fun (x : After W8) => calls_after ((safeE_any (.mk opa va rela cola na sa la) _ x.W (ExM.ext (BW8.out.trans (x.below.mono BW8.out.size)) _ _ HX.out)).mono (fun e w' h => (⟨by rw [h.1, HSF.out], h.2⟩ : e = .returned (.bool SF) ∧ Below x.W.heap.size x.W w'))))
  have C7 := Lib.hid (fun (x : After W8) => calls_after ((dtables_any (.mk opa va rela cola na sa la) _ x.W (ExM.ext (BW8.out.trans (x.below.mono BW8.out.size)) _ _ HX.out) (HG.out.on (BW8.out.trans (x.below.mono BW8.out.size)))).mono (fun e w' h => (⟨by rw [h.1, HTB.out], h.2⟩ : e = .returned (.int .i64 (TB : Nat)) ∧ Below x.W.heap.size x.W w'))))
  have C8 := Lib.hid (fun (x : After W8) => calls_after ((tablesE_any (.mk opa va rela cola na sa la) _ x.W (ExM.ext (BW8.out.trans (x.below.mono BW8.out.size)) _ _ HX.out)).mono (fun e w' h => (⟨by rw [h.1, HTB.out], h.2⟩ : e = .returned (.int .i64 (TB : Int)) ∧ Below x.W.heap.size x.W w'))))
  go_upto_region 7 with fail
  have ra0 := fun (x : After W8) => (x.cell g 0 HA8.out.lt).trans HA8.out.c0
  have rb0 := fun (x : After W8) => (x.cell (g + 1) 0 HB8.out.lt).trans HB8.out.c0
  have ra1 := fun (x : After W8) => (x.cell g 1 HA8.out.lt).trans HA8.out.c1
  have rb1 := fun (x : After W8) => (x.cell (g + 1) 1 HB8.out.lt).trans HB8.out.c1
  have ra2 := fun (x : After W8) => (x.cell g 2 HA8.out.lt).trans HA8.out.c2
  have rb2 := fun (x : After W8) => (x.cell (g + 1) 2 HB8.out.lt).trans HB8.out.c2
  have ra3 := fun (x : After W8) => (x.cell g 3 HA8.out.lt).trans HA8.out.c3
  have rb3 := fun (x : After W8) => (x.cell (g + 1) 3 HB8.out.lt).trans HB8.out.c3
  have ra4 := fun (x : After W8) => (x.cell g 4 HA8.out.lt).trans HA8.out.c4
  have rb4 := fun (x : After W8) => (x.cell (g + 1) 4 HB8.out.lt).trans HB8.out.c4
  have ra5 := fun (x : After W8) => (x.cell g 5 HA8.out.lt).trans HA8.out.c5
  have rb5 := fun (x : After W8) => (x.cell (g + 1) 5 HB8.out.lt).trans HB8.out.c5
  have ra6 := fun (x : After W8) => (x.cell g 6 HA8.out.lt).trans HA8.out.c6
  have rb6 := fun (x : After W8) => (x.cell (g + 1) 6 HB8.out.lt).trans HB8.out.c6
  have ra7 := fun (x : After W8) => (x.cell g 7 HA8.out.lt).trans HA8.out.c7
  have rb7 := fun (x : After W8) => (x.cell (g + 1) 7 HB8.out.lt).trans HB8.out.c7
  have ra8 := fun (x : After W8) => (x.cell g 8 HA8.out.lt).trans HA8.out.c8
  have rb8 := fun (x : After W8) => (x.cell (g + 1) 8 HB8.out.lt).trans HB8.out.c8
  have is := After.some W8
  have hss : (S.toList == S.toList) = true := by simp
  have h00 : ((0 : Int) == 0) = true := rfl
  have h11 : ((1 : Int) == 1) = true := rfl
  have hrr : (RA == RA) = true := by simp
  have hmm : (SM == SM) = true := by simp
  have hff : (SF == SF) = true := by simp
  have htt : ((TB : Int) == (TB : Int)) = true := by simp
  cases RA with
  | true =>
    have hE := HEE.out
    rw [if_pos rfl] at hE
    subst hE
    refine wp_region_after (by kernel_rfl) (by kernel_rfl) ?_
    repeat (go_big_quiet_step ((first | (go_at_call 10; with_reducible exact C0.out _) | (go_at_call 11; with_reducible exact C1.out _) | (go_at_call 12; with_reducible exact C2.out _) | (go_at_call 13; with_reducible exact C3.out _) | (go_at_call 12; with_reducible exact C4.out _) | (go_at_call 14; with_reducible exact C5.out _) | (go_at_call 15; with_reducible exact C6.out _) | (go_at_call 16; with_reducible exact C7.out _) | (go_at_call 17; with_reducible exact C8.out _))))
    refine wpQuiet_nil ?_
    intro Wq hw
    obtain ⟨⟨Wq, hbq⟩, rfl⟩ := hw
    go_wp2_with fail
    refine bodyPost_ret (v := .bool true) (by simp [results, Tryd.results3, go_sem]) rfl ⟨rfl, BW8.out.trans (hbq.mono BW8.out.size)⟩
  | false =>
    have hE := HEE.out
    rw [if_neg (by decide)] at hE
    subst hE
    refine wp_region_after (by kernel_rfl) (by kernel_rfl) ?_
    repeat (go_big_quiet_step ((first | (go_at_call 10; with_reducible exact C0.out _) | (go_at_call 11; with_reducible exact C1.out _) | (go_at_call 12; with_reducible exact C2.out _) | (go_at_call 13; with_reducible exact C3.out _) | (go_at_call 12; with_reducible exact C4.out _) | (go_at_call 14; with_reducible exact C5.out _) | (go_at_call 15; with_reducible exact C6.out _) | (go_at_call 16; with_reducible exact C7.out _) | (go_at_call 17; with_reducible exact C8.out _))))
    refine wpQuiet_nil ?_
    intro Wq hw
    obtain ⟨⟨Wq, hbq⟩, rfl⟩ := hw
    go_wp2_with fail
    refine bodyPost_ret (v := .bool true) (by simp [results, Tryd.results3, go_sem]) rfl ⟨rfl, BW8.out.trans (hbq.mono BW8.out.size)⟩

end Go.Proofs.YtiidfghdmaipoaaDoor
