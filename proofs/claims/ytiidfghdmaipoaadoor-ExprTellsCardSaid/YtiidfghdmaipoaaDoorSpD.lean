/- The developers' Split: where two are joined by AND; Split. -/
import Derived.Test.YtiidfghdmaipoaaDoorSpC
namespace Go.Proofs.YtiidfghdmaipoaaDoor
open Go.RowKit Go.Deep
set_option maxRecDepth 100000

theorem EB.outs {S : Nat → Prop} {W W' : World} {g : Nat} {op : Int} {v : Val} {rel col n : Int} {s : ByteArray} {q : Option Addr} {len c : Nat} (h : EB W g op v rel col n s q len c) (o : Out S W W') (hS : ¬ S g) : EB W' g op v rel col n s q len c := by
  have e : ∀ k u, W.cell? ⟨g, k, none⟩ = some u → W'.cell? ⟨g, k, none⟩ = some u := fun k u hu => (World.cell?_of_block (w := W) (o.block g h.lt hS)).trans hu
  exact ⟨Nat.lt_of_lt_of_le h.lt o.size, e _ _ h.c0, e _ _ h.c1, e _ _ h.c2, e _ _ h.c3, e _ _ h.c4, e _ _ h.c5, e _ _ h.c6, e _ _ h.c7, e _ _ h.c8⟩

set_option maxHeartbeats 16000000 in
theorem splitC_and (v : Val) (rel col n : Int) (s : ByteArray) (y0 y1 : Ex) (IH0 : SplitC y0) (IH1 : SplitC y1) : SplitC (.mk 15 v rel col n s [y0, y1]) := by
  intro w cs b C R vo L hx hS hLN
  rw [ExMP.iff] at hx
  obtain ⟨-, q, c, rfl, -, hl⟩ := hx
  have HSO := Lib.hid (show (Ex.mk 15 v rel col n s [y0, y1]).split = y0.split ++ y1.split by rw [Ex.split, if_pos rfl])
  have HCN := Lib.hid (show L.length + (y0.count + y1.count) ≤ 200 by rw [Ex.count, countL, countL, countL] at hLN; omega)
  have HC0 := Lib.hid (show L.length + y0.count ≤ 200 by have := HCN.out; omega)
  have HI0 := Lib.hid IH0
  have HI1 := Lib.hid IH1
  have HS0 := Lib.hid hS
  have HL0 := Lib.hid hl
  obtain ⟨K0, hO0, -, -⟩ := hS.sl
  have HV2 := Lib.hid (fun k (e : vo.ownBlock = some k) => hO0.lt k e)
  clear hl hS hLN IH0 IH1 hO0
  simp only [List.length_cons, List.length_nil, Nat.zero_add, Nat.reduceAdd]
  obtain ⟨W, hW⟩ : ∃ X', X' = w.alloc (.cells (exCells 15 v rel col n s q 2 c).toArray 26) := ⟨_, rfl⟩
  have hEB : EB W w.heap.size 15 v rel col n s q 2 c := by rw [hW]; exact EB.new _ _ _ _ _ _ _ _ _ _ _
  have hb0 : Below w.heap.size w W := by rw [hW]; exact ext_alloc (ext_refl _) _
  have HWW := Lib.hid hW
  clear hW
  go_enter Tryd.func27, Tryd.ntmps27
  go_upto_region 1 with fail
  rw [← HWW.out]
  clear HWW
  obtain ⟨g, hg⟩ : ∃ g, g = w.heap.size := ⟨_, rfl⟩
  rw [← hg] at hEB ⊢
  have HGW := Lib.hid hg
  have HGB := Lib.hid (show b ≤ g by rw [hg]; exact HS0.out.bs)
  have HV0 := Lib.hid (show ∀ k, vo.ownBlock = some k → k < g from fun k e => by rw [hg]; exact (HV2.out k e).2)
  have HV1 := Lib.hid (show ∀ k, vo.ownBlock = some k → b ≤ k from fun k e => (HV2.out k e).1)
  have HBW := Lib.hid hb0
  have HSW := Lib.hid (HS0.out.on hb0)
  have HEW := Lib.hid hEB
  have HLW := Lib.hid (ExLP.on hb0.size (fun k _ hk => hb0.block k hk) (fun _ h _ => h) _ _ _ HL0.out)
  clear hg hb0
  obtain ⟨lt, c0, c1, c2, c3, c4, c5, c6, c7, c8⟩ := hEB
  have cR := HSW.out.cR
  have lR : R < W.heap.size := Nat.lt_of_lt_of_le HSW.out.lR HSW.out.bs
  have hl_ := ExLP.at_ (j := 0) (x := y0) HLW.out rfl
  obtain ⟨g0, off0, cs0, hq0, hg0, hp0, hx0, hcell⟩ := hl_
  subst hq0
  have HX0 := Lib.hid hx0
  obtain ⟨op1, v1, rel1, col1, n1, s1, l1⟩ := y0
  rw [ExMP.iff] at hx0
  obtain ⟨-, qq0, cc0, rfl, -, -⟩ := hx0
  have f0 := hcell 0 _ rfl
  have f1 := hcell 1 _ rfl
  have f2 := hcell 2 _ rfl
  have f3 := hcell 3 _ rfl
  have f4 := hcell 4 _ rfl
  have f5 := hcell 5 _ rfl
  have f6 := hcell 6 _ rfl
  have f7 := hcell 7 _ rfl
  have f8 := hcell 8 _ rfl
  simp only [Nat.zero_mul, Nat.add_zero] at f0 f1 f2 f3 f4 f5 f6 f7 f8
  clear hcell
  go_wp2_with fail
  refine wp_loop_rounds 3 ?_
  rw [rounds_succ]
  go_upto_region 6 with fail
  obtain ⟨U0, hU⟩ : ∃ X, X = W.alloc (.cells (exCells op1 v1 rel1 col1 n1 s1 qq0 l1.length cc0).toArray 26) := ⟨_, rfl⟩
  have hb : Below W.heap.size W U0 := by rw [hU]; exact ext_alloc (ext_refl _) _
  have hEn : EB U0 W.heap.size op1 v1 rel1 col1 n1 s1 qq0 l1.length cc0 := by rw [hU]; exact EB.new _ _ _ _ _ _ _ _ _ _ _
  change Code.wp _ _ _ _ (W.alloc (.cells (exCells op1 v1 rel1 col1 n1 s1 qq0 l1.length cc0).toArray 26))
  rw [← hU]
  have HSu := Lib.hid (HSW.out.on hb)
  have HEu := Lib.hid (HEW.out.on hb)
  have HLu := Lib.hid (ExLP.on hb.size (fun k _ hk => hb.block k hk) (fun _ h _ => h) _ _ _ HLW.out)
  have HXu := Lib.hid (HX0.out.below hb)
  have HBu := Lib.hid (HBW.out.trans (hb.mono HBW.out.size))
  clear f0 f1 f2 f3 f4 f5 f6 f7 f8 hU hb lt c0 c1 c2 c3 c4 c5 c6 c7 c8 cR lR
  obtain ⟨lt, c0, c1, c2, c3, c4, c5, c6, c7, c8⟩ := hEn
  have cR := HSu.out.cR
  have lR : R < U0.heap.size := Nat.lt_of_lt_of_le HSu.out.lR HSu.out.bs
  go_wp2_with fail
  refine (HI0.out U0 _ b C R _ _ HXu.out HSu.out HC0.out).mono ?_
  rintro e Y ⟨rfl, vY, hS, hO, hown⟩
  have HSY := Lib.hid hS
  have HO0 := Lib.hid hO
  have HW0 := Lib.hid hown
  have HU0 := Lib.hid HBu.out
  have HU0G := Lib.hid (show g < U0.heap.size from HEu.out.lt)
  clear lt c0 c1 c2 c3 c4 c5 c6 c7 c8 cR lR hS hown
  have hgS : ¬ (g = C ∨ vo.ownBlock = some g) := by
    have h1 := HSu.out.lC
    have h2 := HGB.out
    rintro (e | e)
    · omega
    · have := HV0.out g e
      omega
  have HEY := Lib.hid (HEu.out.outs hO hgS)
  have HLY := Lib.hid (ExLP.on hO.size (fun k hk hkw => hO.block k hkw (fun e => by
    rcases e with e | e
    · exact hk.2 e
    · have h1 := hk.1
      have h2 := HV1.out k e
      omega)) (fun _ h _ => h) _ _ _ HLu.out)
  have HC1 := Lib.hid (show (L ++ (Ex.mk op1 v1 rel1 col1 n1 s1 l1).split).length + y1.count ≤ 200 by
    have h1 := split_count _ (Ex.mk op1 v1 rel1 col1 n1 s1 l1) (Nat.le_refl _)
    have h2 := HCN.out
    rw [List.length_append]
    omega)
  clear hO HEu HLu HXu HBu HSu
  have HEY2 := HEY
  obtain ⟨lt, c0, c1, c2, c3, c4, c5, c6, c7, c8⟩ := HEY.out
  have cR := HSY.out.cR
  have lR : R < Y.heap.size := Nat.lt_of_lt_of_le HSY.out.lR HSY.out.bs
  have HBY := Lib.hid (Below.refl Y.heap.size Y)
  go_wp2_with fail
  have hl_ := ExLP.at_ (j := 1) (x := y1) HLY.out rfl
  obtain ⟨g1, off1, cs1, hq1, hg1, hp1, hx1, hcell⟩ := hl_
  obtain ⟨rfl, rfl⟩ : g1 = g0 ∧ off1 = off0 := by cases hq1; exact ⟨rfl, rfl⟩
  clear hq1
  have HX1 := Lib.hid hx1
  obtain ⟨op2, v2, rel2, col2, n2, s2, l2⟩ := y1
  rw [ExMP.iff] at hx1
  obtain ⟨-, qq1, cc1, rfl, -, -⟩ := hx1
  have f0 := hcell 0 _ rfl
  have f1 := hcell 1 _ rfl
  have f2 := hcell 2 _ rfl
  have f3 := hcell 3 _ rfl
  have f4 := hcell 4 _ rfl
  have f5 := hcell 5 _ rfl
  have f6 := hcell 6 _ rfl
  have f7 := hcell 7 _ rfl
  have f8 := hcell 8 _ rfl
  clear hcell
  rw [rounds_succ]
  go_upto_region 6 with fail
  obtain ⟨U1, hU⟩ : ∃ X, X = Y.alloc (.cells (exCells op2 v2 rel2 col2 n2 s2 qq1 l2.length cc1).toArray 26) := ⟨_, rfl⟩
  have hb : Below Y.heap.size Y U1 := by rw [hU]; exact ext_alloc (ext_refl _) _
  have hEn : EB U1 Y.heap.size op2 v2 rel2 col2 n2 s2 qq1 l2.length cc1 := by rw [hU]; exact EB.new _ _ _ _ _ _ _ _ _ _ _
  change Code.wp _ _ _ _ (Y.alloc (.cells (exCells op2 v2 rel2 col2 n2 s2 qq1 l2.length cc1).toArray 26))
  rw [← hU]
  have HSu := Lib.hid (HSY.out.on hb)
  have HEu := Lib.hid (HEY.out.on hb)
  have HLu := Lib.hid (ExLP.on hb.size (fun k _ hk => hb.block k hk) (fun _ h _ => h) _ _ _ HLY.out)
  have HXu := Lib.hid (HX1.out.below hb)
  have HBu := Lib.hid (HBY.out.trans (hb.mono HBY.out.size))
  clear f0 f1 f2 f3 f4 f5 f6 f7 f8 hU hb lt c0 c1 c2 c3 c4 c5 c6 c7 c8 cR lR
  obtain ⟨lt, c0, c1, c2, c3, c4, c5, c6, c7, c8⟩ := hEn
  have cR := HSu.out.cR
  have lR : R < U1.heap.size := Nat.lt_of_lt_of_le HSu.out.lR HSu.out.bs
  go_wp2_with fail
  refine (HI1.out U1 _ b C R _ _ HXu.out HSu.out HC1.out).mono ?_
  rintro e Z ⟨rfl, vZ, hS, hO, hown⟩
  have HSZ := Lib.hid hS
  have HO1 := Lib.hid hO
  have HW1 := Lib.hid hown
  have HU1 := Lib.hid HBu.out
  clear lt c0 c1 c2 c3 c4 c5 c6 c7 c8 cR lR hS hown
  clear hO
  have HE2 := Lib.hid (HEu.out.outs HO1.out (by
    have h1 := HSu.out.lC
    have h2 := HGB.out
    have h3 := HU0.out.size
    have h4 := HGW.out
    have h5 := HEW.out.lt
    rintro (e | e)
    · omega
    · rcases HW0.out g e with h | h
      · have := HV0.out g h
        omega
      · have h6 := HU0G.out
        omega))
  obtain ⟨lt, c0, c1, c2, c3, c4, c5, c6, c7, c8⟩ := HE2.out
  go_wp2_with fail
  rw [rounds_succ]
  go_wp2_with fail
  refine bodyPost_end (results_none (by rfl) _ _ _) rfl ⟨rfl, vZ, ?_, ?_, ?_⟩
  · rw [HSO.out, ← List.append_assoc]
    exact HSZ.out
  · refine ⟨HO1.out.os.trans (HU1.out.os.trans (HO0.out.os.trans HU0.out.os)), HO1.out.tape.trans (HU1.out.tape.trans (HO0.out.tape.trans HU0.out.tape)), HO1.out.output.trans (HU1.out.output.trans (HO0.out.output.trans HU0.out.output)), Nat.le_trans HU0.out.size (Nat.le_trans HO0.out.size (Nat.le_trans HU1.out.size HO1.out.size)), fun k hk hn => ?_⟩
    have s0 := HU0.out.size
    have s1 := HO0.out.size
    have s2 := HU1.out.size
    have h1 := HU0.out.block k hk
    have h2 := HO0.out.block k (by omega) hn
    have h3 := HU1.out.block k (by omega)
    have h4 := HO1.out.block k (by omega) (fun e => by
      rcases e with e | e
      · exact hn (.inl e)
      · rcases HW0.out k e with h | h
        · exact hn (.inr h)
        · omega)
    exact h4.trans (h3.trans (h2.trans h1))
  · intro k e
    have s0 := HU0.out.size
    have s1 := HO0.out.size
    have s2 := HU1.out.size
    rcases HW1.out k e with h | h
    · rcases HW0.out k h with h' | h'
      · exact .inl h'
      · exact .inr (by omega)
    · exact .inr (by omega)

theorem splitC_any : ∀ (k : Nat) (x : Ex), x.deep ≤ k → x.okAll = true → SplitC x
  | 0, x, h, _ => absurd (deep_pos x) (by omega)
  | k + 1, .mk op v rel col n s l, h, ho => by
    by_cases h15 : op = 15
    · subst h15
      have ho' := ho
      rw [Ex.okAll, Bool.and_eq_true] at ho'
      have h1 := (head_parts ho'.1).1
      rcases l with _ | ⟨y0, _ | ⟨y1, _ | ⟨y2, t⟩⟩⟩
      · simp [wantsOf] at h1
      · simp [wantsOf] at h1
      · rw [Ex.deep, deepL, deepL, deepL] at h
        have h2 := ho'.2
        rw [okL, okL, okL, Bool.and_true, Bool.and_eq_true] at h2
        exact splitC_and v rel col n s y0 y1 (splitC_any k y0 (by omega) h2.1) (splitC_any k y1 (by omega) h2.2)
      · have h3 := head_two ho'.1
        simp only [List.length_cons] at h3
        omega
    · exact splitC_other op v rel col n s l h15 (copyC_any _ _ (Nat.le_refl _) ho)

theorem SS.list {W : World} {b C R : Nat} {v : Value} {L : List Ex} (h : SS W b C R v L) : ∃ q c, v = .slice q L.length c ∧ L.length ≤ c ∧ c ≤ 9223372036854775807 ∧ ExL W q 0 L := by
  obtain ⟨K, h1, h2, h3⟩ := h.sl
  obtain ⟨q, c, e, h4, h5, -, h6⟩ := OwnF.arr RawE.cells_len h1
  refine ⟨q, c, by rw [← h2]; exact e, by rw [← h2]; exact h4, h5, ExLP.toL (P := fun _ => True) _ _ _ (ExLP.of fun j x hx => ?_)⟩
  have hj := (List.getElem?_eq_some_iff.1 hx).1
  obtain ⟨g, off, hq, _, hg, hc⟩ := h6 j (by omega)
  have hr : K[j]? = some (K[j]'(by omega)) := List.getElem?_eq_getElem (by omega)
  refine ⟨g, off, _, hq, hg, trivial, ExMP.on (Nat.le_refl _) (fun _ _ _ => rfl) (fun _ _ _ => trivial) _ _ (h3 j _ x hr hx), fun k u hu => ?_⟩
  have h7 := hc j _ hr k u hu
  rw [Nat.zero_add]
  exact h7

/-- Split's answer. -/
def splitR (x : Ex) : List Ex := if rightE x = true then x.split else []

set_option maxHeartbeats 8000000 in
theorem dsplit_any (x : Ex) (cs : List Value) (w : World) (hx : ExM w x cs) (hG : GE w) : Calls Tryd.prog 7 #[.agg cs.toArray] w fun e w' => (∃ q c, e = .returned (.slice q (splitR x).length c) ∧ (splitR x).length ≤ c ∧ c ≤ 9223372036854775807 ∧ ExL w' q 0 (splitR x)) ∧ Below w.heap.size w w' := by
  have HX := Lib.hid hx
  have HG := Lib.hid hG
  obtain ⟨op, v, rel, col, n, s, l⟩ := x
  rw [ExM.iff] at hx
  obtain ⟨-, q, c, rfl, -, -⟩ := hx
  obtain ⟨len, hlen⟩ : ∃ len, len = l.length := ⟨_, rfl⟩
  rw [← hlen] at HX ⊢
  clear hlen hG
  have E0 := EB.new w op v rel col n s q len c 26
  have B0 : Below w.heap.size w (w.alloc (.cells (exCells op v rel col n s q len c).toArray 26)) := ext_alloc (ext_refl _) _
  obtain ⟨W, hW⟩ : ∃ W, W = w.alloc (.cells (exCells op v rel col n s q len c).toArray 26) := ⟨_, rfl⟩
  rw [← hW] at E0 B0
  go_enter Tryd.func7, Tryd.ntmps7
  go_upto_region 1 with fail
  rw [← hW]
  clear hW
  obtain ⟨g, hg⟩ : ∃ g, g = w.heap.size := ⟨_, rfl⟩
  have HB := Lib.hid B0
  have HGW := Lib.hid hg
  rw [← hg] at E0
  rw [← hg]
  clear B0 hg
  have HE := Lib.hid E0
  obtain ⟨lt, c0, c1, c2, c3, c4, c5, c6, c7, c8⟩ := E0
  go_wp2_with fail
  refine (dright_any _ _ W (ExM.ext HB.out _ _ HX.out) (HG.out.on HB.out)).mono ?_
  rintro e X ⟨he, hbX⟩
  have HBX := Lib.hid (HB.out.trans (hbX.mono HB.out.size))
  have HEX := Lib.hid (HE.out.on hbX)
  clear hbX lt c0 c1 c2 c3 c4 c5 c6 c7 c8
  obtain ⟨lt, c0, c1, c2, c3, c4, c5, c6, c7, c8⟩ := HEX.out
  cases hs : rightE (.mk op v rel col n s l) with
  | false =>
    have HQ := Lib.hid (show splitR (.mk op v rel col n s l) = [] by unfold splitR; rw [if_neg (by rw [hs]; decide)])
    rw [hs] at he
    clear hs
    subst he
    go_wp2_with fail
    refine bodyPost_ret (v := .slice none 0 0) (by simp [results, Tryd.results7, go_sem]) rfl ⟨?_, HBX.out⟩
    rw [HQ.out]
    exact ⟨none, 0, rfl, Nat.le_refl _, by omega, by rw [ExL]; trivial⟩
  | true =>
    have HQ := Lib.hid (show splitR (.mk op v rel col n s l) = (Ex.mk op v rel col n s l).split by unfold splitR; rw [if_pos hs])
    have HP := Lib.hid (rightE_parts hs)
    rw [hs] at he
    clear hs
    subst he
    go_upto_region 6 with fail
    obtain ⟨C, hC⟩ : ∃ C, C = X.heap.size := ⟨_, rfl⟩
    have HCX := Lib.hid (show w.heap.size ≤ C by rw [hC]; exact HBX.out.size)
    obtain ⟨X1, hX1⟩ : ∃ Z, Z = X.alloc (.cells #[.slice none 0 0] 24) := ⟨_, rfl⟩
    have z1 : X1.heap.size = C + 1 := by rw [hX1, hC]; simp
    obtain ⟨Y, hY⟩ : ∃ Z, Z = X1.alloc (.cells #[.func (.func 27) #[] #[.pointer (some ⟨C, 0, none⟩), .pointer (some ⟨C + 1, 0, none⟩)]] 48) := ⟨_, rfl⟩
    have bX1 : Below X.heap.size X X1 := by rw [hX1]; exact ext_alloc (ext_refl _) _
    have bX2 : Below X1.heap.size X1 Y := by rw [hY]; exact ext_alloc (ext_refl _) _
    have bXY : Below X.heap.size X Y := bX1.trans (bX2.mono bX1.size)
    have z2 : Y.heap.size = C + 2 := by rw [hY]; simp [z1]
    have kC : X1.heap[C]? = some (.cells #[.slice none 0 0] 24 (0, 0)) := by rw [hX1, hC]; exact heap_alloc_new X _
    have kC2 : Y.heap[C]? = some (.cells #[.slice none 0 0] 24 (0, 0)) := (bX2.block C (by omega)).trans kC
    have kR : Y.heap[C + 1]? = some (.cells #[.func (.func 27) #[] #[.pointer (some ⟨C, 0, none⟩), .pointer (some ⟨C + 1, 0, none⟩)]] 48 (0, 0)) := by
      have h := heap_alloc_new X1 (.cells #[.func (.func 27) #[] #[.pointer (some ⟨C, 0, none⟩), .pointer (some ⟨C + 1, 0, none⟩)]] 48)
      rw [z1, ← hY] at h
      exact h
    have HSS := Lib.hid (show SS Y Y.heap.size C (C + 1) (.slice none 0 0) [] from ⟨by rw [Lib.cell_of_heap kC2]; rfl, fun o => Lib.frozen_of_heap kC2 o, by rw [Lib.cell_of_heap kR]; rfl, by omega, by omega, by omega, Nat.le_refl _, [], OwnF.nil _ _ _, rfl, fun j r x hr => by simp at hr⟩)
    have HXP := Lib.hid (show ExMP Y (fun k => k < Y.heap.size ∧ k ≠ C) (.mk op v rel col n s l) (exCells op v rel col n s q len c) from ExMP.on bXY.size (fun k _ hk => bXY.block k hk) (fun k _ hk => ⟨by omega, by omega⟩) _ _ (ExM.toP _ _ (ExM.ext HBX.out _ _ HX.out)))
    have HBY := Lib.hid (HBX.out.trans (bXY.mono HBX.out.size))
    have HEY := Lib.hid (HEX.out.on bXY)
    change Code.wp _ _ _ _ ((X.alloc (.cells #[.slice none 0 0] 24)).alloc (.cells #[.func (.func 27) #[] #[.pointer (some ⟨X.heap.size, 0, none⟩), .pointer (some ⟨X.heap.size + 1, 0, none⟩)]] 48))
    rw [← hX1, ← hC, ← hY]
    clear hX1 hY hC z1 z2 kC kC2 kR bX1 bX2 bXY lt c0 c1 c2 c3 c4 c5 c6 c7 c8
    obtain ⟨lt, c0, c1, c2, c3, c4, c5, c6, c7, c8⟩ := HEY.out
    have cR := HSS.out.cR
    have lR : C + 1 < Y.heap.size := HSS.out.lR
    have hcount : ([] : List Ex).length + (Ex.mk op v rel col n s l).count ≤ 200 := by have := HP.out.2.2; simpa using this
    have HCT := Lib.hid hcount
    clear hcount
    go_wp2_with fail
    refine (splitC_any _ _ (Nat.le_refl _) HP.out.1 Y _ Y.heap.size C (C + 1) _ _ HXP.out HSS.out HCT.out).mono ?_
    rintro e Z ⟨rfl, vZ, hS, hO, -⟩
    have HSZ := Lib.hid hS
    have HBZ := Lib.hid (HBY.out.trans (hO.below HBY.out.size (fun k hk => by
      rcases hk with e | e
      · rw [e]
        have h1 := HSS.out.lC
        have h2 := HCX.out
        omega
      · cases e)))
    have cC := hS.cC
    have lC : C < Z.heap.size := Nat.lt_of_lt_of_le hS.lC hS.bs
    obtain ⟨qZ, cZ, rfl, hZ1, hZ2, hZ3⟩ := SS.list hS
    have HZ := Lib.hid (And.intro hZ1 (And.intro hZ2 hZ3))
    obtain ⟨nz, hnz⟩ : ∃ nz, nz = (([] : List Ex) ++ (Ex.mk op v rel col n s l).split).length := ⟨_, rfl⟩
    rw [← hnz] at cC HZ
    have HNZ := Lib.hid hnz
    clear hS hO hZ1 hZ2 hZ3 hnz lt c0 c1 c2 c3 c4 c5 c6 c7 c8 cR lR
    go_wp2_with fail
    refine bodyPost_ret (v := .slice qZ nz cZ) (by simp [results, Tryd.results7, go_sem]) rfl ⟨?_, HBZ.out⟩
    rw [HQ.out]
    have h5 := HNZ.out
    rw [List.nil_append] at h5
    refine ⟨qZ, cZ, by rw [h5], by rw [← h5]; exact HZ.out.1, HZ.out.2.1, ?_⟩
    have h6 := HZ.out.2.2
    rw [List.nil_append] at h6
    exact h6

end Go.Proofs.YtiidfghdmaipoaaDoor
