/- A part of the proof. -/
import Derived.Test.YtklgoajgchfmeaaDoorKo
import Derived.Test.YtklgoajgchfmeaaDoorTxE
set_option linter.unusedVariables false
set_option linter.unusedSimpArgs false
namespace Go.Proofs.YtklgoajgchfmeaaDoor
open Go.RowKit Go.Maps Go.ChangeShapes Go.Deep Go.Shelf
set_option maxRecDepth 100000
def OutS (w : World) (B : Nat) (v : Value) (l : Bs) : Prop := OwnB w B v (toJ l) ∨ (l = [83] ∧ ∃ g, v = .slice (some ⟨g, 0, none⟩) 1 1 ∧ w.cell? ⟨g, 0, none⟩ = some (.int .u8 83))
theorem appint_out (B : Nat) (z : Int) (l : Bs) (v : Value) (w : World) (hz : inR z = true) (hown : OutS w B v l) (hB : B ≤ w.heap.size) (hG : GE w) (hg : 3 ≤ B) (hn : l.length + 21 ≤ 140737488355328) :
    Calls Tryd.prog 32 #[v, .int .i64 z, .int .i64 10] w fun e w' => ∃ v', e = .returned v' ∧ OwnB w' B v' (toJ (l ++ Lib.itoa z)) ∧ Below B w w' := by
  rcases hown with h | ⟨rfl, g, rfl, h3⟩
  · exact appint_any B z l v w hz h hB hG hg hn
  · refine (appint_full g 83 z hz w h3 hG).mono ?_
    rintro e w' ⟨v', rfl, h1, h2⟩
    exact ⟨v', rfl, h1.base_leB hB, h2.mono hB⟩
theorem tabsT_ne (S : Nat) : ∀ (l : List Int) (k i : Nat), i < l.length → S.testBit (k + i) = true → tabsT S k l ≠ []
  | [], _, _, h, _ => by simp at h
  | t :: r, k, 0, _, h => by rw [tabsT, if_pos (by simpa using h)]; simp
  | t :: r, k, i + 1, hi, h => by
    have h1 := tabsT_ne S r (k + 1) i (by simpa using hi) (by rw [show k + 1 + i = k + (i + 1) by omega]; exact h)
    rw [tabsT]
    intro e
    exact h1 (List.append_eq_nil_iff.1 e).2
theorem some_bit : ∀ S : Fin 16, ∀ k : Fin 5, 1 ≤ S.val → S.val < 2 ^ k.val → ∃ i : Fin 4, i.val < k.val ∧ S.val.testBit i.val = true := by decide
theorem bytes_step {w U V : World} {B b : Nat} {v vs : Value} {l : List Int} {K : List ByteArray} (ho : OwnB U B v l) (hs : OwnF U b 9 1 (fun x : ByteArray => [Value.string x]) vs K) (hb : Below w.heap.size w U) (hB : w.heap.size ≤ B) (hg : U.grownBy V v.ownBlock) :
    OwnF V b 9 1 (fun x : ByteArray => [Value.string x]) vs K ∧ Below w.heap.size w V := by
  have o : Out (fun k => v.ownBlock = some k) U V := Out.grown hg (fun k hk => hk)
  refine ⟨hs.kept o fun k hk e => ?_, hb.trans (o.below hb.size fun k hk => Nat.le_trans hB (ho.blk hk).2)⟩
  obtain ⟨cur, hc⟩ := (ho.blk hk).1
  rcases hs.2 with ⟨rfl, -⟩ | ⟨g, cap, cur', rfl, -, hg', -⟩
  · cases e
  · have e1 : g = k := by simpa [Value.ownBlock] using e
    subst e1
    rw [hc] at hg'
    have := Option.some.inj hg'
    injection this with _ h2 _
    exact absurd h2 (by decide)
set_option maxHeartbeats 16000000 in
theorem dof_any (r : RawK) (tabs : List Int) (L : List Ex) (set : Int) (w : World) (h : BlkIn w r tabs L) (hG : GE w) (hs : inR set = true) (hci : inR r.core = true) (hLn : L.length ≤ 1048576) (hti : ∀ t ∈ tabs, inR t = true) :
    Calls Tryd.prog 18 #[.agg r.cells.toArray, .int .i64 set] w fun e w' => e = .returned (.tuple #[.string (bsB (ofE tabs r.core L set).1), .int .i64 (ofE tabs r.core L set).2]) ∧ Below w.heap.size w w' := by
  have H := Lib.hid h
  have HG := Lib.hid hG
  have HTI := Lib.hid hti
  have HP := Lib.hid (fun W hb => isPart_any r tabs L set W (h.on hb) (hG.on hb) hs hci)
  have K0 := KB.new w r.cells 43
  have B0 : Below w.heap.size w (w.alloc (.cells r.cells.toArray 43)) := ext_alloc (ext_refl _) _
  have HLN := Lib.hid hLn
  obtain ⟨⟨tq, tn, tc⟩, core, ⟨kq, kn, kc⟩, ⟨oq, on, oc⟩, ⟨cq, cn, cc⟩, ⟨aq, an, ac⟩, ⟨uq, un, uc⟩, gr, ⟨eq, en, ec⟩, ⟨iq, in_, ic⟩, di⟩ := r
  obtain ⟨W, hW⟩ : ∃ W, W = w.alloc (.cells (RawK.cells ⟨⟨tq, tn, tc⟩, core, ⟨kq, kn, kc⟩, ⟨oq, on, oc⟩, ⟨cq, cn, cc⟩, ⟨aq, an, ac⟩, ⟨uq, un, uc⟩, gr, ⟨eq, en, ec⟩, ⟨iq, in_, ic⟩, di⟩).toArray 43) := ⟨_, rfl⟩
  rw [← hW] at K0 B0
  have HW := Lib.hid hW
  clear hW hG hti h
  go_enter Tryd.func18, Tryd.ntmps18
  go_upto_region 1 with fail
  change Code.wp _ _ _ _ (w.alloc (.cells (RawK.cells ⟨⟨tq, tn, tc⟩, core, ⟨kq, kn, kc⟩, ⟨oq, on, oc⟩, ⟨cq, cn, cc⟩, ⟨aq, an, ac⟩, ⟨uq, un, uc⟩, gr, ⟨eq, en, ec⟩, ⟨iq, in_, ic⟩, di⟩).toArray 43))
  rw [← HW.out]
  clear HW
  obtain ⟨g, hg⟩ : ∃ g, g = w.heap.size := ⟨_, rfl⟩
  rw [← hg] at K0 ⊢
  have HB := Lib.hid B0
  have HK := Lib.hid K0
  obtain ⟨lt, kc_⟩ := K0
  have c0 := kc_ 0 _ rfl
  have c1 := kc_ 1 _ rfl
  have c2 := kc_ 2 _ rfl
  have c3 := kc_ 3 _ rfl
  have c4 := kc_ 4 _ rfl
  have c5 := kc_ 5 _ rfl
  have c6 := kc_ 6 _ rfl
  have c7 := kc_ 7 _ rfl
  have c8 := kc_ 8 _ rfl
  have c9 := kc_ 9 _ rfl
  have c10 := kc_ 10 _ rfl
  have HPW := Lib.hid (HP.out W HB.out)
  clear kc_ hg B0 HP
  simp only at c0 c1 c2 c3 c4 c5 c6 c7 c8 c9 c10
  go_wp2_with fail
  refine HPW.out.mono ?_
  rintro e X ⟨rfl, hbX⟩
  have HBX := Lib.hid (HB.out.trans (hbX.mono HB.out.size))
  have HKX := Lib.hid (HK.out.on hbX)
  clear hbX HPW HB HK lt c0 c1 c2 c3 c4 c5 c6 c7 c8 c9 c10
  simp only
  cases hp : partE tabs core L set with
  | false =>
    have HO := Lib.hid (show ofE tabs core L set = ([], 1) by unfold ofE; rw [hp]; rfl)
    clear hp
    go_wp2_with fail
    refine bodyPost_ret (v := .tuple #[.string ⟨#[]⟩, .int .i64 1]) (by simp [results, Tryd.results18, go_sem]) rfl ⟨?_, HBX.out⟩
    rw [HO.out]
  | true =>
    have HO := Lib.hid (show ofE tabs core L set = (83 :: (tabsT set.toNat 0 (tabs.take core.toNat) ++ textsT (sortE ((rankedE set L).map Ex.norm))), 0) by unfold ofE; rw [hp]; rfl)
    unfold partE at hp
    simp only [Bool.and_eq_true, decide_eq_true_eq] at hp
    obtain ⟨⟨⟨⟨⟨p1, p2⟩, p3⟩, p4⟩, p5⟩, p6⟩ := hp
    obtain ⟨k, hk⟩ : ∃ k : Nat, core = k := ⟨core.toNat, by omega⟩
    subst hk
    obtain ⟨S, hS⟩ : ∃ S : Nat, set = S := ⟨set.toNat, by omega⟩
    subst hS
    have hS16 : S < 16 := by
      have h1 : (2 : Int) ^ (k : Int).toNat = ((2 ^ k : Nat) : Int) := by simp
      have h2 : 2 ^ k ≤ 2 ^ 4 := Nat.pow_le_pow_right (by decide) (by omega)
      have h3 : (2 : Nat) ^ 4 = 16 := rfl
      have p5' := p5
      rw [h1] at p5'
      omega
    have HCN := Lib.hid (show cn = L.length from H.out.cn)
    have HRN := Lib.hid (renum_any L cq cc S X (ExL.ext HBX.out _ _ _ H.out.co) (by rw [← HCN.out]; exact H.out.cc) H.out.few (HG.out.on HBX.out) hS16)
    rw [← HCN.out] at HRN
    have lt := HKX.out.lt
    have c4 := HKX.out.c 4 _ rfl
    simp only at c4
    have hk4 : k ≤ 4 := by omega
    have HP3 := Lib.hid (show k ≤ tabs.length by omega)
    have HAR := Lib.hid p6
    have HSB := Lib.hid (show 1 ≤ S ∧ S < 2 ^ k by
      have h1 : (2 : Int) ^ (k : Int).toNat = ((2 ^ k : Nat) : Int) := by simp
      rw [h1] at p5
      omega)
    clear p1 p2 p3 p4 p5 p6
    go_wp2_with fail
    refine HRN.out.mono ?_
    rintro e Y ⟨⟨v, rfl, hOv⟩, hbY⟩
    obtain ⟨qr, cr, rfl, -, -, hLr⟩ := hOv.toL
    have hrl : (rankedE (S : Int) L).length ≤ L.length := by unfold rankedE; rw [List.length_map]; exact List.length_filter_le _ _
    have HRL := Lib.hid hrl
    have HBY := Lib.hid (HBX.out.trans (hbY.mono HBX.out.size))
    have HKY := Lib.hid (HKX.out.on hbY)
    have HNM := Lib.hid (normals_any (rankedE (S : Int) L) qr cr Y hLr (by have := HLN.out; omega) (HG.out.on HBY.out))
    clear hOv hLr hbY hrl HRN lt c4 HKX
    obtain ⟨nr, hnr⟩ : ∃ n, n = (rankedE (S : Int) L).length := ⟨_, rfl⟩
    rw [← hnr] at HNM HRL ⊢
    clear hnr
    go_wp2_with fail
    refine HNM.out.mono ?_
    rintro e Z ⟨⟨-, m, rfl, hm, hM⟩ | ⟨ha, rfl⟩, hbZ⟩
    rotate_left
    · exfalso; rw [ranked_right] at ha; cases ha
    have HBZ := Lib.hid (HBY.out.trans (hbZ.mono HBY.out.size))
    have HKZ := Lib.hid (HKY.out.on hbZ)
    have HMZ := Lib.hid hM
    clear hm hM hbZ HNM HKY
    have hcv := fun (w : World) (C : Array Value) (n c : Nat) => Lib.run_convert_bytes_const (P := Tryd.prog) w 62 5 C n c Tryd.underlying62 Tryd.underlying5
    have HN1 := Lib.hid (show 1 ≤ S ∧ S < 2 ^ k from HSB.out)
    go_upto_region 7 with fail
    have hcN : (Z.alloc (.cells #[.int .u8 83] 5 (1, 2))).cell? ⟨Z.heap.size, 0, none⟩ = some (.int .u8 83) := by rw [Lib.cell_of_heap (heap_alloc_new Z _)]; rfl
    have bN : Below Z.heap.size Z (Z.alloc (.cells #[.int .u8 83] 5 (1, 2))) := ext_alloc (ext_refl _) _
    obtain ⟨N, hN⟩ : ∃ N, N = Z.alloc (.cells #[.int .u8 83] 5 (1, 2)) := ⟨_, rfl⟩
    rw [← hN] at hcN bN ⊢
    clear hN hcv
    have HOS := Lib.hid (show OutS N Z.heap.size (.slice (some ⟨Z.heap.size, 0, none⟩) 1 1) [83] from .inr ⟨rfl, Z.heap.size, rfl, hcN⟩)
    have HBN := Lib.hid bN
    have HKN := HKZ.out.on bN
    have lt := HKN.lt
    have c0 := HKN.c 0 _ rfl
    have c1 := HKN.c 1 _ rfl
    simp only at c0 c1
    have HIT := Lib.hid (show IntsA w 0 w.heap.size tq tabs from H.out.t)
    have HTN := Lib.hid (show tn = tabs.length from H.out.tn)
    have htc : tn ≤ tc := H.out.tc.1
    have htc2 : tc ≤ 9223372036854775807 := H.out.tc.2
    have hktn : k ≤ tn := by rw [HTN.out]; exact HP3.out
    have HGS := Lib.hid (show 3 ≤ Z.heap.size from Nat.le_trans HG.out.size HBZ.out.size)
    clear hcN bN HKN
    obtain ⟨v0, hv0⟩ : ∃ v, v = Value.slice (some ⟨Z.heap.size, 0, none⟩) 1 1 := ⟨_, rfl⟩
    rw [← hv0] at HOS ⊢
    clear hv0
    go_wp2_with fail
    go_loopw [8, 36] (fun v8 v36 wr => ∃ i : Nat, v36 = .int .i64 i ∧ i ≤ k ∧ Hid (OutS wr Z.heap.size v8 (83 :: tabsT S 0 (tabs.take i)) ∧ Below Z.heap.size Z wr)) (fun _ v36 _ => ((k : Int) - intOf v36).toNat)
    case atStart => exact ⟨0, rfl, Nat.zero_le _, HOS.out, HBN.out⟩
    case round =>
      obtain ⟨i, rfl, hi, HH⟩ := hrel
      obtain ⟨V, hV⟩ : ∃ V, V = wr := ⟨_, rfl⟩
      rw [← hV] at HH
      rw [← hV]
      clear hV
      have HOV := Lib.hid HH.out.1
      have HBV := Lib.hid HH.out.2
      clear HH HOS HBN lt c0 c1
      by_cases hlt : i < k
      · have hit : i < tabs.length := Nat.lt_of_lt_of_le hlt HP3.out
        have ht : tabs[i]? = some (tabs[i]'hit) := List.getElem?_eq_getElem hit
        obtain ⟨tz, htz⟩ : ∃ z, z = tabs[i]'hit := ⟨_, rfl⟩
        rw [← htz] at ht
        have HTZ := Lib.hid (HTI.out tz (List.mem_of_getElem? ht))
        have HTS := Lib.hid (show tabsT S 0 (tabs.take (i + 1)) = tabsT S 0 (tabs.take i) ++ (if S.testBit i then Lib.itoa tz ++ [32] else []) by
          rw [take_snoc ht, tabsT_snoc, Nat.zero_add, List.length_take, Nat.min_eq_left (Nat.le_of_lt hit)])
        have HTL := Lib.hid (show (tabsT S 0 (tabs.take i)).length ≤ 22 * i by
          refine Nat.le_trans (tabsT_len S (tabs.take i) 0 fun t h => HTI.out t (List.mem_of_mem_take h)) ?_
          rw [List.length_take]
          have := Nat.min_le_left i tabs.length
          omega)
        obtain ⟨gt, ot, hqt, -, hgt, hct⟩ := HIT.out i hit
        have hcV : V.cell? ⟨gt, ot + i * 1, none⟩ = some (.int .i64 tz) := ((HBZ.out.trans (HBV.out.mono HBZ.out.size)).cell (p := ⟨gt, ot + i * 1, none⟩) hgt).trans (hct i tz ht)
        simp only [Nat.mul_one] at hcV
        subst hqt
        clear hct ht htz hit hgt
        have hsb := shr_bitS (s := S) (j := i) (by omega)
        obtain ⟨LT, hLT⟩ : ∃ l, l = tabsT S 0 (tabs.take i) := ⟨_, rfl⟩
        rw [← hLT] at HOV HTS HTL
        clear hLT
        cases hb : S.testBit i with
        | true =>
          rw [hb] at hsb
          rw [hb, if_pos rfl] at HTS
          have HAI := Lib.hid (appint_out Z.heap.size tz (83 :: LT) u8 V HTZ.out HOV.out HBV.out.size (HG.out.on (HBZ.out.trans (HBV.out.mono HBZ.out.size))) HGS.out (by rw [List.length_cons]; have := HTL.out; omega))
          clear hb
          go_wp2_with fail
          refine HAI.out.mono ?_
          rintro e Y ⟨v', rfl, h1, h2⟩
          have BA : Below Y.heap.size Y (Y.alloc (.cells #[.int .u8 32] 5)) := ext_alloc (ext_refl _) _
          have HY1 := Lib.hid (h1.later BA)
          have HBY := Lib.hid (HBV.out.trans h2)
          have HBYA := Lib.hid (HBY.out.trans (BA.mono HBY.out.size))
          obtain ⟨pv, nv, cv, rfl⟩ := h1.slice
          have hle : (toJ (83 :: LT ++ Lib.itoa tz)).length < 1099511627776 := by
            show ((83 :: LT ++ Lib.itoa tz).map _).length < _
            rw [List.length_map, List.length_append, List.length_cons]
            have h3 := HTL.out
            obtain ⟨a, b⟩ := inR_iff.1 HTZ.out
            have h4 := Lib.itoa_length_le tz a b
            omega
          clear h1 h2 BA HAI
          obtain ⟨LL, hLL⟩ : ∃ l, l = toJ (83 :: LT ++ Lib.itoa tz) := ⟨_, rfl⟩
          rw [← hLL] at HY1 hle
          have HLL := Lib.hid hLL
          clear hLL
          go_wp2_with (at_builtin; refine wp_append_byte2 rfl _ _ rfl Z.heap.size _ LL rfl HY1.out 32 Y.heap.size 1 rfl ?k1 hle ?k3 ?_)
          case k1 => simp [go_sem]
          case k3 => exact HBYA.out.size
          intro v2 w2 h1 _ h2
          have HN := Lib.hid (show OutS w2 Z.heap.size v2 (83 :: tabsT S 0 (tabs.take (i + 1))) from .inl (by
            rw [HTS.out]
            have e : toJ (83 :: (LT ++ (Lib.itoa tz ++ [32]))) = toJ (83 :: LT ++ Lib.itoa tz) ++ [32] := by
              rw [show (83 :: (LT ++ (Lib.itoa tz ++ [32])) : Bs) = (83 :: LT ++ Lib.itoa tz) ++ [32] by simp, toJ_app]
              rfl
            rw [e, ← HLL.out]; exact h1))
          have HB2 := Lib.hid (HBYA.out.trans h2)
          clear h1 h2 hle
          go_wp2_with fail
          go_roundw
          case rel => exact ⟨i + 1, by go_num, hlt, HN.out, HB2.out⟩
          case measure => simp [intOf] <;> omega
        | false =>
          rw [hb] at hsb
          rw [hb] at HTS
          simp only [Bool.false_eq_true, if_false, List.append_nil] at HTS
          have HNX := Lib.hid (show OutS V Z.heap.size u8 (83 :: tabsT S 0 (tabs.take (i + 1))) by rw [HTS.out]; exact HOV.out)
          clear hb
          go_wp2_with fail
          refine ⟨⟨i + 1, by go_num, hlt, HNX.out, HBV.out⟩, ?_⟩
          simp [intOf] <;> omega
      · obtain rfl : i = k := by omega
        have HTL := Lib.hid (show (tabsT S 0 (tabs.take i)).length ≤ 100 by
          refine Nat.le_trans (tabsT_len S (tabs.take i) 0 fun t h => HTI.out t (List.mem_of_mem_take h)) ?_
          rw [List.length_take]
          have := Nat.min_le_left i tabs.length
          omega)
        have hOB : OwnB V Z.heap.size u8 (toJ (83 :: tabsT S 0 (tabs.take i))) := by
          rcases HOV.out with h | ⟨h, -⟩
          · exact h
          · exfalso
            obtain ⟨j, hj1, hj2⟩ := some_bit ⟨S, hS16⟩ ⟨i, by omega⟩ HSB.out.1 HSB.out.2
            have hne := tabsT_ne S (tabs.take i) 0 j.val (by rw [List.length_take, Nat.min_eq_left HP3.out]; exact hj1) (by rw [Nat.zero_add]; exact hj2)
            simp only [List.cons.injEq, true_and] at h
            exact hne h
        obtain ⟨LT, hLT⟩ : ∃ l, l = tabsT S 0 (tabs.take i) := ⟨_, rfl⟩
        have HLT := Lib.hid hLT
        rw [← hLT] at HTL hOB
        have HOB := Lib.hid hOB
        have HBwV := Lib.hid (HBZ.out.trans (HBV.out.mono HBZ.out.size))
        have HMV := Lib.hid (HMZ.out.below (HBV.out))
        obtain ⟨pv, nv, cv, rfl⟩ := hOB.slice
        clear hLT hOB HOV
        go_wp2_with fail
        refine (mapKeysX_any (some m) V).mono ?_
        rintro e w3 ⟨rfl, rfl⟩
        go_wp2_with fail
        have hnr : nr ≤ 1048576 := Nat.le_trans HRL.out hLn
        refine (skeys_any V m nr Y.heap.size _ HMV.out (by omega)).mono ?_
        rintro e w4 ⟨⟨q, c, rfl, -, hOS⟩, hb4⟩
        have B3 : Below V.heap.size V (V.alloc (.cells #[.map (some m)] 56)) := ext_alloc (ext_refl _) _
        have b4 : Below V.heap.size V w4 := B3.trans (hb4.mono B3.size)
        have HPS := Lib.hid (fun x (hx : x ∈ sortE ((rankedE (S : Int) L).map Ex.norm)) => (show x.print.length ≤ 20300 from by
          obtain ⟨ok, D, -, -, hD⟩ := HMV.out
          have hxm := ((sortE_is (fun y hy => (right_iff8.1 (ok y hy)).1)).2 x).1 hx
          obtain ⟨r, -, hr⟩ := hD x hxm
          exact print_size (ExMP.toM _ _ hr) (ok x hxm)))
        have HKL := Lib.hid (show (sortE ((rankedE (S : Int) L).map Ex.norm)).length ≤ 1048576 from Nat.le_trans (sortE_len _) (by rw [List.length_map]; exact Nat.le_trans (by unfold rankedE; rw [List.length_map]; exact List.length_filter_le _ _) hLn))
        have HO2 := Lib.hid (show ofE tabs i L S = (83 :: (LT ++ textsT (sortE ((rankedE (S : Int) L).map Ex.norm))), 0) by rw [HO.out, HLT.out]; rfl)
        obtain ⟨K, hK⟩ : ∃ K, K = sortE ((rankedE (S : Int) L).map Ex.norm) := ⟨_, rfl⟩
        rw [← hK] at hOS HPS HKL HO2 ⊢
        have HOW := Lib.hid hOS
        have HOB4 := Lib.hid (HOB.out.later b4)
        have HB4 := Lib.hid (HBwV.out.trans (b4.mono HBwV.out.size))
        have HZ4 := Lib.hid (show Z.heap.size ≤ w4.heap.size from Nat.le_trans HBV.out.size b4.size)
        obtain ⟨kl, hkl⟩ : ∃ n, n = K.length := ⟨_, rfl⟩
        rw [← hkl] at HOW HKL ⊢
        have HKN := Lib.hid hkl
        have hkl6 : kl ≤ 1048576 := HKL.out
        clear hK hOS hb4 B3 b4 HOB HBwV HMV HBV hkl HLT HO
        go_wp2_with fail
        go_loopw [8, 57] (fun v8 v57 wr => ∃ j : Nat, v57 = .int .i64 j ∧ j ≤ kl ∧ Hid (OwnB wr Z.heap.size v8 (toJ (83 :: (LT ++ textsT (K.take j)))) ∧ Below w.heap.size w wr ∧ OwnF wr V.heap.size 9 1 (fun x : ByteArray => [Value.string x]) (.slice q kl c) (K.map fun x => bsB x.print) ∧ Z.heap.size ≤ wr.heap.size)) (fun _ v57 _ => ((kl : Int) - intOf v57).toNat)
        case atStart => exact ⟨0, rfl, Nat.zero_le _, by rw [List.take_zero, textsT, List.append_nil]; exact HOB4.out, HB4.out, HOW.out, HZ4.out⟩
        case round =>
          obtain ⟨j, rfl, hj, HH⟩ := hrel
          obtain ⟨U, hU⟩ : ∃ V, V = wr := ⟨_, rfl⟩
          rw [← hU] at HH
          rw [← hU]
          clear hU
          have HOU := Lib.hid HH.out.1
          have HBU := Lib.hid HH.out.2.1
          have HSU := Lib.hid HH.out.2.2.1
          have HZU := Lib.hid HH.out.2.2.2
          have HTT := Lib.hid (show (textsT (K.take j)).length ≤ 20301 * j by
            refine Nat.le_trans (textsT_len (K.take j) fun x hx => HPS.out x (List.mem_of_mem_take hx)) ?_
            rw [List.length_take]
            have := Nat.min_le_left j K.length
            exact Nat.mul_le_mul_left _ this)
          clear HH HOB4 HOW HB4 HZ4
          by_cases hlt : j < kl
          · obtain ⟨x, hx⟩ : ∃ x, K[j]? = some x := ⟨_, List.getElem?_eq_getElem (by rw [← HKN.out]; exact hlt)⟩
            have HXS := Lib.hid (HPS.out x (List.mem_of_getElem? hx))
            have HTS := Lib.hid (show textsT (K.take (j + 1)) = textsT (K.take j) ++ x.print ++ [59] by rw [take_snoc hx, textsT_snoc])
            obtain ⟨q', c', hq', -, -, -, hA⟩ := OwnF.arr (cells := fun x : ByteArray => [Value.string x]) (sz := 1) (fun _ => rfl) HSU.out
            simp only [Value.slice.injEq] at hq'
            obtain ⟨rfl, -, rfl⟩ := hq'
            obtain ⟨gs, os, hqs, -, hgs, hcell⟩ := hA j (by rw [List.length_map, ← HKN.out]; exact hlt)
            have hc := hcell j (bsB x.print) (by rw [List.getElem?_map, hx]; rfl) 0 _ rfl
            simp only [Nat.mul_one, Nat.add_zero] at hc
            subst hqs
            obtain ⟨TX_, hTX⟩ : ∃ t, t = textsT (K.take j) := ⟨_, rfl⟩
            rw [← hTX] at HOU HTS HTT
            obtain ⟨PX, hPX⟩ : ∃ t, t = x.print := ⟨_, rfl⟩
            rw [← hPX] at hc HXS HTS
            obtain ⟨SX, hSX⟩ : ∃ s, s = bsB PX := ⟨_, rfl⟩
            rw [← hSX] at hc
            have HSX := Lib.hid hSX
            obtain ⟨LL, hLL⟩ : ∃ l : Bs, l = 83 :: (LT ++ TX_) := ⟨_, rfl⟩
            rw [← hLL] at HOU
            have HLL := Lib.hid hLL
            have hlen1 : LL.length + PX.length ≤ 1099511627776 := by
              rw [hLL, List.length_cons, List.length_append]
              have h1 := HTT.out
              have h2 := HXS.out
              have h3 := HTL.out
              have h4 : 20301 * j ≤ 20301 * 1048576 := Nat.mul_le_mul_left _ (by omega)
              omega
            obtain ⟨pu, nu, cu, rfl⟩ := HOU.out.slice
            clear hx hcell hA hTX hPX hSX hLL hgs
            go_wp2_with (at_builtin; refine wp_append_text rfl _ _ rfl Z.heap.size _ LL rfl HOU.out PX SX HSX.out rfl hlen1 HZU.out ?_)
            intro v2 w2 h1 h2
            have h1 : OwnB w2 Z.heap.size v2 (toJ (LL ++ PX)) := by rw [toJ_app]; exact h1
            have hst := bytes_step HOU.out HSU.out HBU.out HBZ.out.size h2
            have HSW := Lib.hid hst.1
            have HBW := Lib.hid hst.2
            have HZW := Lib.hid (Nat.le_trans HZU.out h2.size)
            have BA : Below w2.heap.size w2 (w2.alloc (.cells #[.int .u8 59] 5)) := ext_alloc (ext_refl _) _
            have HO2A := Lib.hid (h1.later BA)
            have HSA := Lib.hid (HSW.out.later BA)
            have HBA := Lib.hid (HBW.out.trans (BA.mono HBW.out.size))
            have hle : (toJ (LL ++ PX)).length < 1099511627776 := by
              show ((LL ++ PX).map _).length < _
              rw [List.length_map, List.length_append]
              have h1 := HTT.out
              have h2 := HXS.out
              have h3 := HTL.out
              have h4 : 20301 * j ≤ 20301 * 1048576 := Nat.mul_le_mul_left _ (by omega)
              rw [HLL.out, List.length_cons, List.length_append]
              omega
            obtain ⟨pu2, nu2, cu2, rfl⟩ := h1.slice
            obtain ⟨LM, hLM⟩ : ∃ l, l = toJ (LL ++ PX) := ⟨_, rfl⟩
            rw [← hLM] at HO2A hle
            have HLM := Lib.hid hLM
            clear h1 h2 hst BA hLM hc HOU HSU HBU HZU
            go_wp2_with (at_builtin; refine wp_append_byte2 rfl _ _ rfl Z.heap.size _ LM rfl HO2A.out 59 w2.heap.size 1 rfl ?k1 hle ?k3 ?_)
            case k1 => simp [go_sem]
            case k3 => exact Nat.le_trans HZW.out (by simp)
            intro v3 w5 h1 h2 h3
            have hst := bytes_step HO2A.out HSA.out HBA.out HBZ.out.size h2
            have HNO := Lib.hid (show OwnB w5 Z.heap.size v3 (toJ (83 :: (LT ++ textsT (K.take (j + 1))))) by
              have e : toJ (83 :: (LT ++ textsT (K.take (j + 1)))) = toJ (LL ++ PX) ++ [59] := by
                rw [HTS.out, HLL.out, show (83 :: (LT ++ (TX_ ++ PX ++ [59])) : Bs) = (83 :: (LT ++ TX_) ++ PX) ++ [59] by simp, toJ_app]
                rfl
              rw [e, ← HLM.out]; exact h1)
            have HNS := Lib.hid hst.1
            have HNB := Lib.hid hst.2
            have HNZ := Lib.hid (show Z.heap.size ≤ w5.heap.size from Nat.le_trans HZW.out (Nat.le_trans (by simp) h2.size))
            clear h1 h2 h3 hst hle HO2A HSA HBA HSW HBW HZW
            go_wp2_with fail
            go_roundw
            case rel => exact ⟨j + 1, by go_num, hlt, HNO.out, HNB.out, HNS.out, HNZ.out⟩
            case measure => simp [intOf] <;> omega
          · have HE := Lib.hid (show K.take j = K by rw [show j = K.length by rw [← HKN.out]; omega, List.take_length])
            rw [HE.out] at HOU
            obtain ⟨pu, nu, cu, rfl⟩ := HOU.out.slice
            have hconv := conv_own HOU.out
            obtain ⟨R, hR⟩ : ∃ s, s = bsB (83 :: (LT ++ textsT K)) := ⟨_, rfl⟩
            rw [← hR] at hconv
            have HR := Lib.hid hR
            clear hR
            go_wp2_with fail
            refine bodyPost_ret (v := .tuple #[.string R, .int .i64 0]) (by simp [results, Tryd.results18, go_sem]) rfl ⟨?_, HBU.out⟩
            rw [HO2.out, HR.out]
open Go.Lib (decDigits)
set_option maxRecDepth 100000
def lowD (z : Int) : Bs := if z = 0 then [] else decDigits z.natAbs
theorem lowD_step {z : Int} (h : z ≠ 0) : lowD z = lowD (z.tdiv 10) ++ [UInt8.ofNat (48 + z.natAbs % 10)] := by
  have e : (z.tdiv 10).natAbs = z.natAbs / 10 := by rw [Int.natAbs_tdiv]; rfl
  unfold lowD
  rw [if_neg h]
  by_cases h10 : z.natAbs < 10
  · rw [if_pos (by omega), Lib.decDigits_one h10, Nat.mod_eq_of_lt h10]
    rfl
  · rw [if_neg (by omega), decDigits, dif_neg h10, e]
theorem lowD_itoa {z : Int} (h : z ≠ 0) : Lib.itoa z = (if z < 0 then [45] else []) ++ lowD z := by
  unfold Lib.itoa lowD
  rw [if_neg h]
  by_cases h0 : z < 0
  · rw [if_pos h0, if_pos h0]; rfl
  · rw [if_neg h0, if_neg h0, show z.toNat = z.natAbs by omega]; rfl
theorem tmod_abs (z : Int) : z.tmod 10 = (if z < 0 then -((z.natAbs % 10 : Nat) : Int) else ((z.natAbs % 10 : Nat) : Int)) := by
  by_cases h : z < 0
  · rw [if_pos h]
    have e : z = -(z.natAbs : Int) := by omega
    conv => lhs; rw [e]
    rw [Int.neg_tmod, Int.tmod_eq_emod_of_nonneg (by omega)]
    rfl
  · rw [if_neg h]
    have e : z = (z.natAbs : Int) := by omega
    conv => lhs; rw [e]
    rw [Int.tmod_eq_emod_of_nonneg (by omega)]
    rfl
theorem lowD_len {z : Int} (h1 : -9223372036854775808 ≤ z) (h2 : z ≤ 9223372036854775807) : (lowD z).length ≤ 21 := by
  by_cases h : z = 0
  · subst h; simp [lowD]
  · have h3 := Lib.itoa_length_le z h1 h2
    rw [lowD_itoa h, List.length_append] at h3
    omega
theorem conv_one {w : World} {g i c : Nat} {b : UInt8} (h : w.cell? ⟨g, i, none⟩ = some (.int .u8 b.toNat)) : (convert 62 9 (.slice (some ⟨g, i, none⟩) 1 c)).run Tryd.prog w = .ok (.string ⟨#[b]⟩) w := by
  rw [run_convert_bytes_string w 62 9 5 _ _ _ Tryd.underlying62 Tryd.underlying5 Tryd.underlying9]
  have hl : (loadCells ⟨g, i, none⟩ ([(b.toNat : Int)]).length).run Tryd.prog w = .ok (([(b.toNat : Int)]).map (Value.int .u8)).toArray w := by
    have := run_loadCells_list (P := Tryd.prog) w ⟨g, i, none⟩ (([(b.toNat : Int)]).map (Value.int .u8)) (fun j u hu => by
      match j, hu with
      | 0, hu => simp at hu; subst hu; simpa [Addr.add] using h)
    simpa using this
  refine (run_bytesToString w _ _ c [(b.toNat : Int)] hl).trans ?_
  simp [ByteArray.push]
theorem drop_snoc_text {D : Bs} {j : Nat} {b : UInt8} (h : D[j]? = some b) : (D.drop j).reverse = (D.drop (j + 1)).reverse ++ [b] := by
  obtain ⟨h1, rfl⟩ := List.getElem?_eq_some_iff.1 h
  rw [List.drop_eq_getElem_cons h1, List.reverse_cons]
set_option maxHeartbeats 4000000 in
theorem digits_any (z : Int) (h1 : -9223372036854775808 ≤ z) (h2 : z ≤ 9223372036854775807) (w : World) : Calls Tryd.prog 22 #[.int .i64 z] w fun e w' => e = .returned (.string (dgs z)) ∧ Below w.heap.size w w' := by
  by_cases h0 : z = 0
  · subst h0
    go_enter Tryd.func22, Tryd.ntmps22
    go_wp2
    refine bodyPost_ret (v := .string ⟨#[48]⟩) (by simp [results, Tryd.results22, go_sem]) rfl ⟨by rw [show dgs 0 = (⟨#[48]⟩ : ByteArray) by unfold dgs; rw [show Lib.itoa 0 = [UInt8.ofNat (48 + 0)] from (by rw [show (0 : Int) = ((0 : Nat) : Int) from rfl, Lib.itoa_nonneg, Lib.decDigits_one (by omega)])]; rfl], Below.refl _ _⟩
  · have b0 : (z == 0) = false := by rw [beq_eq_false_iff_ne]; exact h0
    have HZ := Lib.hid h0
    clear h0
    go_enter Tryd.func22, Tryd.ntmps22
    go_wp2_with fail
    go_loopw [3, 4] (fun vD vz wr => ∃ (x : Int) (D : Bs), vz = .int .i64 x ∧ -9223372036854775808 ≤ x ∧ x ≤ 9223372036854775807 ∧ Hid (OwnB wr w.heap.size vD (toJ D) ∧ Below w.heap.size w wr ∧ lowD z = lowD x ++ D.reverse)) (fun _ vz _ => (intOf vz).natAbs)
    case atStart => exact ⟨z, [], rfl, h1, h2, OwnB.nil _ _, Below.refl _ _, by simp⟩
    case round =>
      obtain ⟨x, D, rfl, hx1, hx2, HH⟩ := hrel
      obtain ⟨V, hV⟩ : ∃ V, V = wr := ⟨_, rfl⟩
      rw [← hV] at HH
      rw [← hV]
      clear hV
      by_cases hx0 : x = 0
      · subst hx0
        have hlz : lowD z = D.reverse := by rw [HH.out.2.2]; rfl
        have HL : D.length ≤ 21 := by
          have e := congrArg List.length hlz
          rw [List.length_reverse] at e
          have := lowD_len h1 h2
          omega
        have hO := HH.out.1
        have HB := Lib.hid HH.out.2.1
        obtain ⟨pre, hpre⟩ : ∃ pre : Bs, pre = if z < 0 then [45] else [] := ⟨_, rfl⟩
        have HI := Lib.hid (show bsB (pre ++ D.reverse) = dgs z by unfold dgs; rw [lowD_itoa HZ.out, hlz, hpre])
        have hpl : pre.length ≤ 1 := by rw [hpre]; split <;> simp
        have HP := Lib.hid hpre
        clear hpre HH
        rcases hO.2 with ⟨-, hnil⟩ | ⟨g, cap, cur, rfl, -, -, hnc, hmc, hc, -⟩
        · exfalso
          rw [List.length_map] at hnil
          have hD : D = [] := List.eq_nil_of_length_eq_zero hnil
          rw [hD] at hlz
          have h3 := lowD_step HZ.out
          rw [hlz] at h3
          simp at h3
        obtain ⟨m, hm⟩ : ∃ m, m = D.length := ⟨_, rfl⟩
        have HC := Lib.hid (fun (j : Nat) (b : UInt8) (hb : D[j]? = some b) => show V.cell? ⟨g, j, none⟩ = some (.int .u8 b.toNat) by have := World.ownsRow.cells hO (g := g) rfl j (.int .u8 b.toNat) (by simp [toJ, hb]); rw [Addr.add] at this; (try split at this) <;> simp_all)
        have hlen : (toJ D).length = m := by rw [List.length_map]; exact hm.symm
        have hml : m ≤ 21 := by rw [hm]; exact HL
        rw [hlen] at hnc
        rw [hlen]
        unfold maxLen at hmc
        have hwm : wrap64 ((m : Int) - 1) = (m : Int) - 1 := by unfold wrap64; omega
        have HM := Lib.hid hm
        clear hm hlz hO hlen hc HL
        go_upto_if 28 with fail
        go_cut [6] (fun v6 wc => v6 = .string (bsB pre) ∧ V = wc)
        case first =>
          have hpre := HP.out
          by_cases hs : z < 0
          · rw [if_pos hs] at hpre
            subst hpre
            go_wp2_with fail
            go_meet
            exact ⟨rfl, rfl⟩
          · rw [if_neg hs] at hpre
            subst hpre
            go_wp2_with fail
            go_meet
            exact ⟨rfl, rfl⟩
        case rest =>
          obtain ⟨rfl, rfl⟩ := hcut
          go_wp2_with fail
          go_loopw [6, 7] (fun v6 v7 wr => ∃ (T : ByteArray) (j : Nat), v6 = .string T ∧ v7 = .int .i64 ((j : Int) - 1) ∧ j ≤ m ∧ T.size ≤ 40 ∧ Hid (T = bsB (pre ++ (D.drop j).reverse)) ∧ V = wr) (fun _ v7 _ => (intOf v7 + 1).toNat)
          case atStart => exact ⟨bsB pre, m, rfl, rfl, Nat.le_refl _, by (show pre.length ≤ 40; omega), by (show bsB pre = _; rw [HM.out, List.drop_length]; simp), rfl⟩
          case round =>
            obtain ⟨T, j, rfl, rfl, hj, hT, HT, rfl⟩ := hrel
            rcases j with _ | i
            · have HTT := Lib.hid (show T = dgs z by rw [HT.out, List.drop_zero]; exact HI.out)
              clear HT
              go_wp2_with fail
              refine bodyPost_ret (v := .string T) (by simp [results, Tryd.results22, go_sem]) rfl ⟨by rw [HTT.out], HB.out⟩
            · obtain ⟨b, hb⟩ : ∃ b, D[i]? = some b := ⟨_, List.getElem?_eq_getElem (by rw [← HM.out]; omega)⟩
              have hcell := HC.out i b hb
              have hconv := fun c => conv_one (w := V) (c := c) hcell
              have HT2 := Lib.hid (show T ++ (⟨#[b]⟩ : ByteArray) = bsB (pre ++ (D.drop i).reverse) by rw [HT.out, drop_snoc_text hb, ← List.append_assoc]; exact bsB_add _ [b])
              have hsz : (T ++ (⟨#[b]⟩ : ByteArray)).size ≤ 40 := by
                rw [HT2.out]
                show (pre ++ (D.drop i).reverse).length ≤ 40
                rw [List.length_append, List.length_reverse, List.length_drop]
                have := HM.out
                omega
              have e1 : (((i + 1 : Nat) : Int) - 1) = (i : Int) := by omega
              rw [e1]
              clear hb HT e1
              have hw1 : wrap64 ((i : Int) + 1) = (i : Int) + 1 := by unfold wrap64; omega
              have hw2 : wrap64 ((i : Int) - 1) = (i : Int) - 1 := by unfold wrap64; omega
              have hci : ¬ cap = i := by omega
              have hi1 : ((i : Int) + 1).toNat - i = 1 := by omega
              go_wp2_with fail
              go_roundw
              case rel => exact ⟨T ++ (⟨#[b]⟩ : ByteArray), i, rfl, rfl, by omega, hsz, HT2, trivial⟩
              case measure => simp [intOf] <;> omega
      · have bx : (x == 0) = false := by rw [beq_eq_false_iff_ne]; exact hx0
        have bn : (x != 0) = true := by simpa using hx0
        obtain ⟨k, hk⟩ : ∃ k, k = x.natAbs % 10 := ⟨_, rfl⟩
        have hk10 : k < 10 := by omega
        obtain ⟨r, hr⟩ : ∃ r, x.tmod 10 = r := ⟨_, rfl⟩
        have htm := Lib.hid ((hr.symm.trans (tmod_abs x)).trans (by rw [← hk]))
        have HS := Lib.hid (lowD_step hx0)
        rw [← hk] at HS
        have HQ := Lib.hid (show -9223372036854775808 ≤ x.tdiv 10 ∧ x.tdiv 10 ≤ 9223372036854775807 ∧ (x.tdiv 10).natAbs < x.natAbs by
          have e : (x.tdiv 10).natAbs = x.natAbs / 10 := by rw [Int.natAbs_tdiv]; rfl
          omega)
        clear hk hx0
        go_upto_if 16 with fail
        go_cut [5] (fun v5 wc => v5 = .int .i64 (k : Int) ∧ V = wc)
        case first =>
          by_cases hs : x < 0
          · have htm := htm.out
            rw [if_pos hs] at htm
            by_cases h0 : k = 0
            · subst h0
              go_wp2_with fail
              go_meet
              exact ⟨by go_num, rfl⟩
            · go_wp2_with fail
              go_meet
              exact ⟨by go_num, rfl⟩
          · have htm := htm.out
            rw [if_neg hs] at htm
            go_wp2_with fail
            go_meet
            exact ⟨by go_num, rfl⟩
        case rest =>
          obtain ⟨rfl, rfl⟩ := hcut
          have HO := HH.out.1
          obtain ⟨vp, vn, vc, rfl⟩ := HO.slice
          have HL := Lib.hid (show D.length ≤ 21 by
            have e := congrArg List.length HH.out.2.2
            rw [List.length_append, List.length_reverse] at e
            have := lowD_len h1 h2
            omega)
          obtain ⟨q, hq⟩ : ∃ q, x.tdiv 10 = q := ⟨_, rfl⟩
          rw [hq] at HQ HS
          clear hr htm
          have HJ := Lib.hid (show toJ D ++ [48 + (k : Int)] = toJ (D ++ [UInt8.ofNat (48 + k)]) by rw [toJ_app]; simp [toJ, UInt8.toNat_ofNat']; omega)
          go_wp2_with (at_builtin; refine wp_append_byte2 rfl _ _ rfl w.heap.size _ _ rfl (HO.later ?k1) (48 + (k : Int)) _ _ rfl ?k2 ?k3 ?k4 ?_)
          case k1 => (repeat (first | exact ext_refl _ | assumption | (refine ext_alloc ?_ _) | (refine ext_drewN ?_ _) | refine ext_drew ?_ | (refine ext_set (by first | (simp; done) | (simp; omega)) _ ?_) | (refine ext_trans ?_ (by assumption))))
          case k2 => simp [go_sem]
          case k3 => rw [List.length_map]; have := HL.out; omega
          case k4 => have := HH.out.2.1.size; simp; omega
          intro v2 w2 HO2 hg2 hb2
          rw [HJ.out] at HO2
          obtain ⟨vp2, vn2, vc2, rfl⟩ := HO2.slice
          have hbn : Below w.heap.size w w2 := Below.trans (ext_alloc HH.out.2.1 _) hb2
          have HN := Lib.hid (And.intro HO2 (And.intro hbn (show lowD z = lowD q ++ (D ++ [UInt8.ofNat (48 + k)]).reverse by rw [HH.out.2.2, HS.out]; simp)))
          clear HO2 hbn hg2 hb2 HO HH HJ
          go_wp2_with fail
          have hw : wrap64 q = q := by obtain ⟨q1, q2, q3⟩ := HQ.out; unfold wrap64; omega
          go_roundw
          case rel => exact ⟨q, D ++ [UInt8.ofNat (48 + k)], by rw [hw], HQ.out.1, HQ.out.2.1, HN.out⟩
          case measure => rw [hw]; have := HQ.out.2.2; simp [intOf] <;> omega
end Go.Proofs.YtklgoajgchfmeaaDoor
