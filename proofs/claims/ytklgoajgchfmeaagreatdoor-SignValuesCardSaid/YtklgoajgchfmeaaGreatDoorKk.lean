/- A part of the proof. -/
import Derived.Test.YtklgoajgchfmeaaGreatDoorKe
import Derived.Test.YtklgoajgchfmeaaGreatDoorKj
import Derived.Test.YtklgoajgchfmeaaGreatDoorKi
set_option linter.unusedVariables false
set_option linter.unusedSimpArgs false
namespace Go.Proofs.YtklgoajgchfmeaaGreatDoor
open Go.RowKit Go.Shelf
set_option maxRecDepth 100000
theorem all_prefix {p : Hd → Bool} {a b : List Hd} (h : a <+: b) (ha : a.all p = false) : b.all p = false := by
  obtain ⟨r, rfl⟩ := h
  rw [List.all_append, ha, Bool.false_and]
theorem isAnything_any (k : Val) (w : World) : Calls Tryz.prog 13 #[.agg #[.int .i64 k.k, .int .i64 k.n, .string k.s]] w fun e w' => e = .returned (.bool true) ∧ Below w.heap.size w w' := by
  go_enter Tryz.func13, Tryz.ntmps13
  go_wp2
  go_ret
  exact ⟨rfl, by (repeat (first | exact ext_refl _ | assumption | (refine ext_alloc ?_ _) | (refine ext_drewN ?_ _) | refine ext_drew ?_ | (refine ext_set (by first | (simp; done) | (simp; omega)) _ ?_) | (refine ext_trans ?_ (by assumption))))⟩
attribute [local go_sem] Oper.semAt_some
def okV (cols : List (List Val)) (ps : List Val) (h : Hd) : Bool := if h.op = 2 ∨ h.op = 3 then (leafV h.op h.rel h.col h.n cols ps).isSome else true
set_option maxHeartbeats 8000000 in
theorem refers_val (x : Ex) (cs : List Value) (w : World) (cv pv : Value) (cols : List (List Val)) (ps : List Val) (hx : ExM w x cs) (ho : x.okAll = true) (hk : VM w cv pv cols ps) :
    Calls Tryz.prog 12 #[.agg cs.toArray, cv, pv, .func (.func 13) #[] #[]] w fun e w' => e = .returned (.bool (x.nodes.all (okV cols ps))) ∧ Below w.heap.size w w' := by
  have HX := Lib.hid hx
  have HO := Lib.hid ho
  have HK := Lib.hid hk
  obtain ⟨op, v, rel, col, n, s, t⟩ := x
  rw [ExM.iff] at hx
  obtain ⟨-, q, c, rfl, -, -⟩ := hx
  obtain ⟨⟨cq, cc, rfl, hcc, hcm, -⟩, pq, pc, rfl, hpc, hpm, -⟩ := id HK.out
  clear ho hk
  have E0 := EB.new w op v rel col n s q t.length c 26
  obtain ⟨W1, hW1⟩ : ∃ W, W = w.alloc (.cells (exCells op v rel col n s q t.length c).toArray 26) := ⟨_, rfl⟩
  rw [← hW1] at E0
  have z1 : W1.heap.size = w.heap.size + 1 := by rw [hW1]; simp
  have x1 := Boxed.new W1 27 (.slice cq cols.length cc)
  obtain ⟨W2, hW2⟩ : ∃ W, W = W1.alloc (.cells #[(.slice cq cols.length cc)] 27) := ⟨_, rfl⟩
  rw [← hW2, z1] at x1
  have z2 : W2.heap.size = w.heap.size + 1 + 1 := by rw [hW2]; simp [z1]
  have x2 := Boxed.new W2 28 (.slice pq ps.length pc)
  obtain ⟨W3, hW3⟩ : ∃ W, W = W2.alloc (.cells #[(.slice pq ps.length pc)] 28) := ⟨_, rfl⟩
  rw [← hW3, z2] at x2
  have z3 : W3.heap.size = w.heap.size + 1 + 1 + 1 := by rw [hW3]; simp [z2]
  have x3 := Boxed.new W3 46 (.func (.func 13) #[] #[])
  obtain ⟨W4, hW4⟩ : ∃ W, W = W3.alloc (.cells #[.func (.func 13) #[] #[]] 46) := ⟨_, rfl⟩
  rw [← hW4, z3] at x3
  have z4 : W4.heap.size = w.heap.size + 1 + 1 + 1 + 1 := by rw [hW4]; simp [z3]
  have x4 := Boxed.new W4 4 (.bool false)
  obtain ⟨W, hW⟩ : ∃ W, W = W4.alloc (.cells #[.bool false] 4) := ⟨_, rfl⟩
  rw [← hW, z4] at x4
  have b : Below w.heap.size w W := by rw [hW, hW4, hW3, hW2, hW1]; (repeat (first | exact ext_refl _ | assumption | (refine ext_alloc ?_ _) | (refine ext_drewN ?_ _) | refine ext_drew ?_ | (refine ext_set (by first | (simp; done) | (simp; omega)) _ ?_) | (refine ext_trans ?_ (by assumption))))
  have E1 : EB W w.heap.size op v rel col n s q t.length c := by
    rw [hW, hW4, hW3, hW2]
    exact (((E0.on (ext_alloc (ext_refl _) _)).on (ext_alloc (ext_refl _) _)).on (ext_alloc (ext_refl _) _)).on (ext_alloc (ext_refl _) _)
  have x3' : Boxed W (w.heap.size + 1 + 1 + 1) 46 (.func (.func 13) #[] #[]) := by rw [hW]; exact x3.alloc _
  have x2' : Boxed W (w.heap.size + 1 + 1) 28 (.slice pq ps.length pc) := by rw [hW, hW4]; exact (x2.alloc _).alloc _
  have x1' : Boxed W (w.heap.size + 1) 27 (.slice cq cols.length cc) := by rw [hW, hW4, hW3]; exact ((x1.alloc _).alloc _).alloc _
  have HWW := Lib.hid (show W = ((((w.alloc (.cells (exCells op v rel col n s q t.length c).toArray 26)).alloc (.cells #[(.slice cq cols.length cc)] 27)).alloc (.cells #[(.slice pq ps.length pc)] 28)).alloc (.cells #[.func (.func 13) #[] #[]] 46)).alloc (.cells #[.bool false] 4) by rw [hW, hW4, hW3, hW2, hW1])
  have HB := Lib.hid b
  have HBX := Lib.hid (And.intro x4 (And.intro x1' (And.intro x2' x3')))
  have HE := Lib.hid E1
  clear hW hW1 hW2 hW3 hW4 x1 x2 x3 x4 x1' x2' x3' b E0 z1 z2 z3 z4
  obtain ⟨lt, c0, d1, d2, d3, d4, d5, d6, d7, d8⟩ := E1
  refine (callsIn_wide (n := 9)).1 (callsIn_of_wp_marks Tryz.func12 rfl trivial ?_ rfl)
  simp only [Tryz.ntmps12, List.size_toArray, List.length_cons, List.length_nil, Nat.reduceAdd, Nat.reduceSub, Array.replicate_succ, Array.replicate_zero, List.push_toArray, List.append_toArray, List.nil_append, List.cons_append]
  gi_wp2_with fail
  rw [← HWW.out]
  clear HWW
  refine ⟨trivial, (parts_any 8 op v rel col n s q t.length c _).mono ?_⟩
  rintro e Z ⟨rfl, hZ⟩
  obtain ⟨g, hg⟩ : ∃ g, g = w.heap.size := ⟨_, rfl⟩
  rw [← hg] at HBX ⊢
  obtain ⟨A, hA⟩ : ∃ A, A = g + 1 + 1 + 1 + 1 := ⟨_, rfl⟩
  rw [← hA] at HBX ⊢
  obtain ⟨B, hB⟩ : ∃ B, B = W.heap.size := ⟨_, rfl⟩
  rw [← hB]
  have bP : Blk Z B 26 (exCells op v rel col n s q t.length c).toArray := by rw [hZ, hB]; exact Blk.new _ _ _
  have zZ : Z.heap.size = B + 1 := by rw [hZ, World.size_alloc, hB]
  have bZ : Below w.heap.size w Z := by rw [hZ]; exact ext_alloc HB.out _
  have bS : (((Boxed Z A 4 (.bool false) ∧ Boxed Z (g + 1) 27 (.slice cq cols.length cc)) ∧ Boxed Z (g + 2) 28 (.slice pq ps.length pc)) ∧ Boxed Z (g + 3) 46 (.func (.func 13) #[] #[])) := by
    rw [hZ]
    exact ⟨⟨⟨HBX.out.1.alloc _, HBX.out.2.1.alloc _⟩, HBX.out.2.2.1.alloc _⟩, HBX.out.2.2.2.alloc _⟩
  have hAB : A < B := by rw [hB]; exact HBX.out.1.lt
  have hAw : w.heap.size < A := by omega
  have HBZ := Lib.hid bZ
  have HAw := Lib.hid hAw
  clear hZ hB lt c0 d1 d2 d3 d4 d5 d6 d7 d8 HB HE HBX bZ hAw hA hg
  gi_wp2_with fail
  refine wpIn_rangeFunc_ownH rfl (by omega) (gf := 40) (lb := #[.pointer (some ⟨B, 0, none⟩)]) rfl trivial (enters_of Tryz.func40 (by kernel_rfl) rfl)
    (seq_any (fun k => k = A) _ B _ _ w Z HX.out HO.out (CF.of HBZ.out) HBZ.out.size (fun g hg e => by have := HAw.out; omega) (fun k hk e => by omega) (by omega) (fun k u hu => bP.cell (by simpa using hu)))
    (fun h k => h.trans k) (fun W l o o' _ hl hc _ => KC.put W l o o' hl hc) (Below.refl _ _) (fun _ => rfl)
    (fun pre W => ((((Boxed W A 4 (.bool false) ∧ Boxed W (g + 1) 27 (.slice cq cols.length cc)) ∧ Boxed W (g + 2) 28 (.slice pq ps.length pc)) ∧ Boxed W (g + 3) 46 (.func (.func 13) #[] #[])) ∧ (pre.map Nd.hd).all (okV cols ps) = true) ∧ Below w.heap.size w W)
    (fun ec pre W => (Boxed W A 4 (.bool false) ∧ ec = .ret ∧ (pre.map Nd.hd).all (okV cols ps) = false) ∧ Below w.heap.size w W)
    (OwnFrom.and (OwnFrom.and (OwnFrom.and (OwnFrom.and (OwnFrom.and (Own.from (boxed_own _ _ _) _) (Own.from (boxed_own _ _ _) _)) (Own.from (boxed_own _ _ _) _)) (Own.from (boxed_own _ _ _) _)) (ownFrom_pure _ _)) (ownFrom_below (Nat.le_refl _) HBZ.out.size))
    (fun ec => OwnFrom.and (OwnFrom.and (Own.from (boxed_own _ _ _) _) (ownFrom_pure _ _)) (ownFrom_below (Nat.le_refl _) HBZ.out.size))
    ⟨⟨bS, rfl⟩, HBZ.out⟩
    (fun x a' W => ∃ Bx, A < Bx ∧ Blk W Bx 26 x.cells ∧ a' = { tmps := #[.agg (exCells op v rel col n s q t.length c).toArray, (.slice cq cols.length cc), (.slice pq ps.length pc), .func (.func 13) #[] #[], .pointer (some ⟨g, 0, none⟩), .pointer (some ⟨g + 1, 0, none⟩), .pointer (some ⟨g + 2, 0, none⟩), .pointer (some ⟨g + 3, 0, none⟩), .pointer (some ⟨A, 0, none⟩), .pointer (some ⟨Bx, 0, none⟩), undef, undef, .agg (exCells op v rel col n s q t.length c).toArray, .func (.func 40) #[] #[.pointer (some ⟨B, 0, none⟩)], .agg x.cells, undef, undef, undef, undef, undef, undef, undef, undef, undef, undef, undef, undef, undef, undef, undef, undef, undef, undef, undef, undef, undef, undef, undef], defers := [] })
    (fun x a' _ X Y row hs hg hr => by obtain ⟨Bx, h1, h2, h3⟩ := hs; exact ⟨Bx, h1, h2.kept hg (fun r e => (hr r e).2), h3⟩)
    ?assign ?body ?done ?stop
  case assign =>
    rintro l pre ⟨⟨op1, v1, rel1, col1, n1, s1, len1⟩, q1, cc1, ok1⟩ W K ⟨⟨⟨⟨⟨bS1, bS2⟩, bS3⟩, bS4⟩, hn1⟩, hB1⟩ hK
    have h1 := bS1.lt
    have HK := Lib.hid hK
    have HN1 := Lib.hid hn1
    clear hK hn1
    dsimp only [Nd.encs, Nd.cells]
    gi_wp2
    exact HK.out _ _ ((KeepsOthers.alloc _ _).from _) (KC.alloc _ _ _) ⟨⟨⟨⟨⟨bS1.alloc _, bS2.alloc _⟩, bS3.alloc _⟩, bS4.alloc _⟩, HN1.out⟩, ext_alloc hB1 _⟩ ⟨W.heap.size, h1, Blk.new W _ _, rfl⟩
  case body =>
    rintro l pre ⟨⟨op1, v1, rel1, col1, n1, s1, len1⟩, q1, cc1, ok1⟩ a' W hl - ⟨⟨⟨⟨⟨bS1, bS2⟩, bS3⟩, bS4⟩, hn1⟩, hB1⟩ ⟨Bx, hBx, bX, rfl⟩ -
    dsimp only [Nd.encs, Nd.cells] at bX ok1 ⊢
    obtain ⟨lt, f0, f1, f2, f3, f4, f5, f6, f7, f8⟩ := bX.eb
    have cA := bS1.cell
    have fA := bS1.frozen
    have lA := bS1.lt
    have cB := bS2.cell
    have cC := bS3.cell
    have cD := bS4.cell
    have HN1 := Lib.hid (show List.all ((pre ++ [(⟨⟨op1, v1, rel1, col1, n1, s1, len1⟩, q1, cc1, ok1⟩ : Nd)]).map Nd.hd) (okV cols ps) = okV cols ps ⟨op1, v1, rel1, col1, n1, s1, len1⟩ by
      rw [List.map_append, List.all_append, hn1, Bool.true_and]
      show (okV cols ps _ && true) = _
      rw [Bool.and_true])
    have HS := Lib.hid (And.intro bS1 (And.intro bS2 (And.intro bS3 bS4)))
    have HB1 := Lib.hid hB1
    have HOK := Lib.hid ok1
    have HKW := Lib.hid (HK.out.on hB1)
    clear hn1 bS1 bS2 bS3 bS4 hB1
    by_cases h23 : op1 = 2 ∨ op1 = 3
    · have H23 := Lib.hid h23
      have qv : (op1 != 2) = true ∧ (op1 != 3) = false ∨ (op1 != 2) = false := by
        rcases h23 with rfl | rfl
        · exact .inr rfl
        · exact .inl ⟨rfl, rfl⟩
      clear h23
      have walk : ∀ (_ : (op1 != 2) = true ∧ (op1 != 3) = false ∨ (op1 != 2) = false), True := fun _ => trivial
      clear walk
      rcases qv with ⟨q2, q3⟩ | q2
      · skip
        gi_wp2_with fail
        refine ⟨trivial, (CallsIn.inRound l (callsIn_wide.2 (source_val op1 v1 rel1 col1 n1 s1 q1 len1 cc1 _ (.slice cq cols.length cc) (.slice pq ps.length pc) cols ps HKW.out HOK.out H23.out))).mono ?_⟩
        rintro e Y ⟨he, hbY⟩
        have HBY := Lib.hid (HB1.out.trans (hbY.mono HB1.out.size))
        have HSY := Lib.hid (And.intro (show Boxed Y A _ _ from (hbY.block _ HS.out.1.lt).trans HS.out.1) (And.intro (show Boxed Y (g + 1) _ _ from (hbY.block _ HS.out.2.1.lt).trans HS.out.2.1) (And.intro (show Boxed Y (g + 2) _ _ from (hbY.block _ HS.out.2.2.1.lt).trans HS.out.2.2.1) (show Boxed Y (g + 3) _ _ from (hbY.block _ HS.out.2.2.2.lt).trans HS.out.2.2.2))))
        have KFY : KeepsFrom Z.heap.size W Y := ⟨hbY.size, fun k o _ hk _ => (hbY.block k (Array.getElem?_eq_some_iff.1 hk).1).trans hk⟩
        have KCY : KC (fun k => k = A) W Y := KC.of_below hbY
        have HKF := Lib.hid (And.intro KFY KCY)
        clear f0 f1 f2 f3 f4 f5 f6 f7 f8 lt cA fA lA cB cC cD hbY KFY KCY
        have cA := HSY.out.1.cell
        have fA := HSY.out.1.frozen
        have lA := HSY.out.1.lt
        have cD := HSY.out.2.2.2.cell
        have lD := HSY.out.2.2.2.lt
        cases hq : leafV op1 rel1 col1 n1 cols ps with
        | none =>
          rw [hq] at he
          have HQ := Lib.hid (show okV cols ps ⟨op1, v1, rel1, col1, n1, s1, len1⟩ = false by unfold okV; rw [if_pos H23.out]; show (leafV op1 rel1 col1 n1 cols ps).isSome = _; rw [hq]; rfl)
          simp only [Option.getD_none, Option.isSome_none] at he
          clear hq
          subst he
          have bN := HSY.out.1.set (.bool false)
          have kB : Below w.heap.size w (Y.setCell ⟨A, 0, none⟩ (.bool false)) := HBY.out.setCell (p := ⟨A, 0, none⟩) (by have := HAw.out; show w.heap.size ≤ A; omega) _
          have HF := Lib.hid (And.intro bN kB)
          clear bN kB
          gi_wp2_with fail
          refine ⟨fun _ h => (by cases h), ?_⟩
          gi_wp2_with fail
          exact ⟨(HKF.out.1).trans (((KeepsOthers.setCell _ _ _).trans (KeepsOthers.alloc _ _)).from _), ⟨HF.out.1.alloc _, rfl, by rw [HN1.out, HQ.out]⟩, ext_alloc HF.out.2 _⟩
        | some k =>
          rw [hq] at he
          simp only [Option.getD_some, Option.isSome_some] at he
          have HQ := Lib.hid (show okV cols ps ⟨op1, v1, rel1, col1, n1, s1, len1⟩ = true by unfold okV; rw [if_pos H23.out]; show (leafV op1 rel1 col1 n1 cols ps).isSome = _; rw [hq]; rfl)
          clear hq
          subst he
          gi_wp2_with fail
          refine ⟨trivial, (CallsIn.inRound l (callsIn_wide.2 (isAnything_any k _))).mono ?_⟩
          rintro e Y2 ⟨rfl, hb2⟩
          have HB2 := Lib.hid (ext_trans (ext_alloc (ext_refl Y) _) hb2)
          clear hb2
          gi_wp2_with fail
          have h := HB2.out
          have KFY : KeepsFrom Z.heap.size Y Y2 := ⟨h.size, fun k o _ hk _ => (h.block k (Array.getElem?_eq_some_iff.1 hk).1).trans hk⟩
          exact ⟨HKF.out.1.trans KFY, HKF.out.2.trans (KC.of_below h), ⟨⟨⟨⟨(h.block _ HSY.out.1.lt).trans HSY.out.1, (h.block _ HSY.out.2.1.lt).trans HSY.out.2.1⟩, (h.block _ HSY.out.2.2.1.lt).trans HSY.out.2.2.1⟩, (h.block _ HSY.out.2.2.2.lt).trans HSY.out.2.2.2⟩, by rw [HN1.out, HQ.out]⟩, HBY.out.trans (h.mono HBY.out.size)⟩
      · skip
        gi_wp2_with fail
        refine ⟨trivial, (CallsIn.inRound l (callsIn_wide.2 (source_val op1 v1 rel1 col1 n1 s1 q1 len1 cc1 _ (.slice cq cols.length cc) (.slice pq ps.length pc) cols ps HKW.out HOK.out H23.out))).mono ?_⟩
        rintro e Y ⟨he, hbY⟩
        have HBY := Lib.hid (HB1.out.trans (hbY.mono HB1.out.size))
        have HSY := Lib.hid (And.intro (show Boxed Y A _ _ from (hbY.block _ HS.out.1.lt).trans HS.out.1) (And.intro (show Boxed Y (g + 1) _ _ from (hbY.block _ HS.out.2.1.lt).trans HS.out.2.1) (And.intro (show Boxed Y (g + 2) _ _ from (hbY.block _ HS.out.2.2.1.lt).trans HS.out.2.2.1) (show Boxed Y (g + 3) _ _ from (hbY.block _ HS.out.2.2.2.lt).trans HS.out.2.2.2))))
        have KFY : KeepsFrom Z.heap.size W Y := ⟨hbY.size, fun k o _ hk _ => (hbY.block k (Array.getElem?_eq_some_iff.1 hk).1).trans hk⟩
        have KCY : KC (fun k => k = A) W Y := KC.of_below hbY
        have HKF := Lib.hid (And.intro KFY KCY)
        clear f0 f1 f2 f3 f4 f5 f6 f7 f8 lt cA fA lA cB cC cD hbY KFY KCY
        have cA := HSY.out.1.cell
        have fA := HSY.out.1.frozen
        have lA := HSY.out.1.lt
        have cD := HSY.out.2.2.2.cell
        have lD := HSY.out.2.2.2.lt
        cases hq : leafV op1 rel1 col1 n1 cols ps with
        | none =>
          rw [hq] at he
          have HQ := Lib.hid (show okV cols ps ⟨op1, v1, rel1, col1, n1, s1, len1⟩ = false by unfold okV; rw [if_pos H23.out]; show (leafV op1 rel1 col1 n1 cols ps).isSome = _; rw [hq]; rfl)
          simp only [Option.getD_none, Option.isSome_none] at he
          clear hq
          subst he
          have bN := HSY.out.1.set (.bool false)
          have kB : Below w.heap.size w (Y.setCell ⟨A, 0, none⟩ (.bool false)) := HBY.out.setCell (p := ⟨A, 0, none⟩) (by have := HAw.out; show w.heap.size ≤ A; omega) _
          have HF := Lib.hid (And.intro bN kB)
          clear bN kB
          gi_wp2_with fail
          refine ⟨fun _ h => (by cases h), ?_⟩
          gi_wp2_with fail
          exact ⟨(HKF.out.1).trans (((KeepsOthers.setCell _ _ _).trans (KeepsOthers.alloc _ _)).from _), ⟨HF.out.1.alloc _, rfl, by rw [HN1.out, HQ.out]⟩, ext_alloc HF.out.2 _⟩
        | some k =>
          rw [hq] at he
          simp only [Option.getD_some, Option.isSome_some] at he
          have HQ := Lib.hid (show okV cols ps ⟨op1, v1, rel1, col1, n1, s1, len1⟩ = true by unfold okV; rw [if_pos H23.out]; show (leafV op1 rel1 col1 n1 cols ps).isSome = _; rw [hq]; rfl)
          clear hq
          subst he
          gi_wp2_with fail
          refine ⟨trivial, (CallsIn.inRound l (callsIn_wide.2 (isAnything_any k _))).mono ?_⟩
          rintro e Y2 ⟨rfl, hb2⟩
          have HB2 := Lib.hid (ext_trans (ext_alloc (ext_refl Y) _) hb2)
          clear hb2
          gi_wp2_with fail
          have h := HB2.out
          have KFY : KeepsFrom Z.heap.size Y Y2 := ⟨h.size, fun k o _ hk _ => (h.block k (Array.getElem?_eq_some_iff.1 hk).1).trans hk⟩
          exact ⟨HKF.out.1.trans KFY, HKF.out.2.trans (KC.of_below h), ⟨⟨⟨⟨(h.block _ HSY.out.1.lt).trans HSY.out.1, (h.block _ HSY.out.2.1.lt).trans HSY.out.2.1⟩, (h.block _ HSY.out.2.2.1.lt).trans HSY.out.2.2.1⟩, (h.block _ HSY.out.2.2.2.lt).trans HSY.out.2.2.2⟩, by rw [HN1.out, HQ.out]⟩, HBY.out.trans (h.mono HBY.out.size)⟩
    · have q2 : (op1 != 2) = true := by rw [bne, beq_eq_false_iff_ne.2 (fun e => h23 (.inl e))]; rfl
      have q3 : (op1 != 3) = true := by rw [bne, beq_eq_false_iff_ne.2 (fun e => h23 (.inr e))]; rfl
      have HQ := Lib.hid (show okV cols ps ⟨op1, v1, rel1, col1, n1, s1, len1⟩ = true by
        unfold okV
        rw [if_neg (by simpa using h23)])
      clear h23
      gi_wp2_with fail
      exact ⟨KeepsFrom.refl _ _, KC.refl _ _, ⟨⟨⟨⟨HS.out.1, HS.out.2.1⟩, HS.out.2.2.1⟩, HS.out.2.2.2⟩, by rw [HN1.out, HQ.out]⟩, HB1.out⟩
  case done =>
    rintro D ys W hD hm ⟨⟨⟨⟨⟨bS1, -⟩, -⟩, -⟩, hn1⟩, hB1⟩ hK
    have cA := bS1.cell
    have fA := bS1.frozen
    have lA := bS1.lt
    have bN := bS1.set (.bool true)
    have kB : Below w.heap.size w (W.setCell ⟨A, 0, none⟩ (.bool true)) := hB1.setCell (p := ⟨A, 0, none⟩) (by have := HAw.out; show w.heap.size ≤ A; omega) _
    have hK2 : (W.setCell ⟨A, 0, none⟩ (.bool true)).heap[D]? = some (.deferred (some [])) := (KeepsOthers.setCell W ⟨A, 0, none⟩ (.bool true)).same D _ hK rfl
    have HF := Lib.hid (And.intro bN (And.intro kB hK2))
    have HD := Lib.hid (And.intro hD (And.intro hm hn1))
    clear bN kB hK hK2 hD hm hn1
    gi_wp2_with fail
    refine ⟨by simp, .inl ⟨_, _, rfl, run_takeDeferred HF.out.2.2, ?_⟩⟩
    have bE := (boxed_put (o' := .deferred none) HF.out.1 HF.out.2.2 rfl).cell
    have kE := HF.out.2.1.trans (belowK_b (w := w) (Nat.le_refl _) (W.setCell ⟨A, 0, none⟩ (.bool true)) D _ (.deferred none) (Nat.le_trans HBZ.out.size HD.out.1) HF.out.2.2 rfl rfl)
    exact ⟨.bool true, by simp [results, Tryz.results12, go_sem, bE], by rw [← HD.out.2.1, HD.out.2.2], kE⟩
  case stop =>
    rintro D ec pre W hD hm ⟨⟨bS1, rfl, hn1⟩, hB1⟩ hK
    have HF := Lib.hid (And.intro hD (And.intro hm (And.intro hn1 hK)))
    clear hD hm hn1 hK
    gi_wp2_with fail
    refine ⟨by simp, .inl ⟨_, _, rfl, run_takeDeferred HF.out.2.2.2, ?_⟩⟩
    have bE := (boxed_put (o' := .deferred none) bS1 HF.out.2.2.2 rfl).cell
    have kE := hB1.trans (belowK_b (w := w) (Nat.le_refl _) W D _ (.deferred none) (Nat.le_trans HBZ.out.size HF.out.1) HF.out.2.2.2 rfl rfl)
    exact ⟨.bool false, by simp [results, Tryz.results12, go_sem, bE], by rw [all_prefix HF.out.2.1 HF.out.2.2.1], kE⟩
open Go.RowKit
set_option maxRecDepth 100000
theorem EB.set {W : World} {g : Nat} {op : Int} {v : Val} {rel col n : Int} {s : ByteArray} {q : Option Addr} {len c : Nat} (h : EB W g op v rel col n s q len c) {p : Addr} (hp : p.block ≠ g) (u : Value) : EB (W.setCell p u) g op v rel col n s q len c :=
  h.out (Out.set (S := fun k => k = p.block) p u rfl) (fun e => hp e.symm)
theorem op_range {op : Int} {v : Val} {rel col n : Int} {s : ByteArray} {len : Nat} (h : headOk op v rel col n s len = true) : 1 ≤ op ∧ op ≤ 18 := by
  have h1 := (head_parts h).1
  unfold wantsOf at h1
  split at h1
  · omega
  · omega
end Go.Proofs.YtklgoajgchfmeaaGreatDoor
