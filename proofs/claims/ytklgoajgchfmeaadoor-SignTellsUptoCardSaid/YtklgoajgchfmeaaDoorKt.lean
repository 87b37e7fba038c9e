/- A part of the proof. -/
import Derived.Test.YtklgoajgchfmeaaDoorKs
import Derived.Test.YtklgoajgchfmeaaDoorKk
import Derived.StillTailTactics
set_option linter.unusedVariables false
set_option linter.unusedSimpArgs false
namespace Go.Proofs.YtklgoajgchfmeaaDoor
open Go.RowKit Go.Maps Go.ChangeShapes Go.Deep Go.Shelf
set_option maxRecDepth 100000
def OutS (w : World) (B : Nat) (v : Value) (l : Bs) : Prop := OwnB w B v (toJ l) ∨ (l = [83] ∧ ∃ g, v = .slice (some ⟨g, 0, none⟩) 1 1 ∧ w.cell? ⟨g, 0, none⟩ = some (.int .u8 83))
theorem appint_out (B : Nat) (z : Int) (l : Bs) (v : Value) (w : World) (hz : inR z = true) (hown : OutS w B v l) (hB : B ≤ w.heap.size) (hG : GE w) (hg : 3 ≤ B) (hn : l.length + 21 ≤ 140737488355328) :
    Calls Tryd.prog 32 #[v, .int .i64 z, .int .i64 10] w fun e w' => ∃ v', e = .returned v' ∧ OwnB w' B v' (toJ (l ++ Lib.itoa z)) ∧ Below B w w' := by
  rcases hown with h | ⟨rfl, g, rfl, h3⟩
  · exact appint_any B z l v w hz h hB hG hg hn
  · refine (appint_full g 83 z hz w h3 hG).mono ?_
    rintro e w' ⟨v', rfl, h1, h2⟩
    exact ⟨v', rfl, h1.base_leB hB, h2.mono hB⟩
theorem tabsT_ne (S : Nat) : ∀ (l : List Int) (k i : Nat), i < l.length → S.testBit (k + i) = true → tabsT S k l ≠ []
  | [], _, _, h, _ => by simp at h
  | t :: r, k, 0, _, h => by rw [tabsT, if_pos (by simpa using h)]; simp
  | t :: r, k, i + 1, hi, h => by
    have h1 := tabsT_ne S r (k + 1) i (by simpa using hi) (by rw [show k + 1 + i = k + (i + 1) by omega]; exact h)
    rw [tabsT]
    intro e
    exact h1 (List.append_eq_nil_iff.1 e).2
theorem some_bit : ∀ S : Fin 16, ∀ k : Fin 5, 1 ≤ S.val → S.val < 2 ^ k.val → ∃ i : Fin 4, i.val < k.val ∧ S.val.testBit i.val = true := by decide
theorem bytes_step {w U V : World} {B b : Nat} {v vs : Value} {l : List Int} {K : List ByteArray} (ho : OwnB U B v l) (hs : OwnF U b 9 1 (fun x : ByteArray => [Value.string x]) vs K) (hb : Below w.heap.size w U) (hB : w.heap.size ≤ B) (hg : U.grownBy V v.ownBlock) :
    OwnF V b 9 1 (fun x : ByteArray => [Value.string x]) vs K ∧ Below w.heap.size w V := by
  have o : Out (fun k => v.ownBlock = some k) U V := Out.grown hg (fun k hk => hk)
  refine ⟨hs.kept o fun k hk e => ?_, hb.trans (o.below hb.size fun k hk => Nat.le_trans hB (ho.blk hk).2)⟩
  obtain ⟨cur, hc⟩ := (ho.blk hk).1
  rcases hs.2 with ⟨rfl, -⟩ | ⟨g, cap, cur', rfl, -, hg', -⟩
  · cases e
  · have e1 : g = k := by simpa [Value.ownBlock] using e
    subst e1
    rw [hc] at hg'
    have := Option.some.inj hg'
    injection this with _ h2 _
    exact absurd h2 (by decide)
set_option maxHeartbeats 16000000 in
theorem dof_any (r : RawK) (tabs : List Int) (L : List Ex) (set : Int) (w : World) (h : BlkIn w r tabs L) (hG : GE w) (hs : inR set = true) (hci : inR r.core = true) (hLn : L.length ≤ 1048576) (hti : ∀ t ∈ tabs, inR t = true) :
    Calls Tryd.prog 18 #[.agg r.cells.toArray, .int .i64 set] w fun e w' => e = .returned (.tuple #[.string (bsB (ofE tabs r.core L set).1), .int .i64 (ofE tabs r.core L set).2]) ∧ Below w.heap.size w w' := by
  have H := Lib.hid h
  have HG := Lib.hid hG
  have HTI := Lib.hid hti
  have HP := Lib.hid (fun W hb => isPart_any r tabs L set W (h.on hb) (hG.on hb) hs hci)
  have K0 := KB.new w r.cells 43
  have B0 : Below w.heap.size w (w.alloc (.cells r.cells.toArray 43)) := ext_alloc (ext_refl _) _
  have HLN := Lib.hid hLn
  obtain ⟨⟨tq, tn, tc⟩, core, ⟨kq, kn, kc⟩, ⟨oq, on, oc⟩, ⟨cq, cn, cc⟩, ⟨aq, an, ac⟩, ⟨uq, un, uc⟩, gr, ⟨eq, en, ec⟩, ⟨iq, in_, ic⟩, di⟩ := r
  obtain ⟨W, hW⟩ : ∃ W, W = w.alloc (.cells (RawK.cells ⟨⟨tq, tn, tc⟩, core, ⟨kq, kn, kc⟩, ⟨oq, on, oc⟩, ⟨cq, cn, cc⟩, ⟨aq, an, ac⟩, ⟨uq, un, uc⟩, gr, ⟨eq, en, ec⟩, ⟨iq, in_, ic⟩, di⟩).toArray 43) := ⟨_, rfl⟩
  rw [← hW] at K0 B0
  have HW := Lib.hid hW
  clear hW hG hti h
  go_enter Tryd.func18, Tryd.ntmps18
  go_upto_region 1 with fail
  change Code.wp _ _ _ _ (w.alloc (.cells (RawK.cells ⟨⟨tq, tn, tc⟩, core, ⟨kq, kn, kc⟩, ⟨oq, on, oc⟩, ⟨cq, cn, cc⟩, ⟨aq, an, ac⟩, ⟨uq, un, uc⟩, gr, ⟨eq, en, ec⟩, ⟨iq, in_, ic⟩, di⟩).toArray 43))
  rw [← HW.out]
  clear HW
  obtain ⟨g, hg⟩ : ∃ g, g = w.heap.size := ⟨_, rfl⟩
  rw [← hg] at K0 ⊢
  have HB := Lib.hid B0
  have HK := Lib.hid K0
  obtain ⟨lt, kc_⟩ := K0
  have c0 := kc_ 0 _ rfl
  have c1 := kc_ 1 _ rfl
  have c2 := kc_ 2 _ rfl
  have c3 := kc_ 3 _ rfl
  have c4 := kc_ 4 _ rfl
  have c5 := kc_ 5 _ rfl
  have c6 := kc_ 6 _ rfl
  have c7 := kc_ 7 _ rfl
  have c8 := kc_ 8 _ rfl
  have c9 := kc_ 9 _ rfl
  have c10 := kc_ 10 _ rfl
  have HPW := Lib.hid (HP.out W HB.out)
  clear kc_ hg B0 HP
  simp only at c0 c1 c2 c3 c4 c5 c6 c7 c8 c9 c10
  go_wp2_with fail
  refine HPW.out.mono ?_
  rintro e X ⟨rfl, hbX⟩
  have HBX := Lib.hid (HB.out.trans (hbX.mono HB.out.size))
  have HKX := Lib.hid (HK.out.on hbX)
  clear hbX HPW HB HK lt c0 c1 c2 c3 c4 c5 c6 c7 c8 c9 c10
  simp only
  cases hp : partE tabs core L set with
  | false =>
    have HO := Lib.hid (show ofE tabs core L set = ([], 1) by unfold ofE; rw [hp]; rfl)
    clear hp
    go_wp2_with fail
    refine bodyPost_ret (v := .tuple #[.string ⟨#[]⟩, .int .i64 1]) (by simp [results, Tryd.results18, go_sem]) rfl ⟨?_, HBX.out⟩
    rw [HO.out]
  | true =>
    have HO := Lib.hid (show ofE tabs core L set = (83 :: (tabsT set.toNat 0 (tabs.take core.toNat) ++ textsT (sortE ((rankedE set L).map Ex.norm))), 0) by unfold ofE; rw [hp]; rfl)
    unfold partE at hp
    simp only [Bool.and_eq_true, decide_eq_true_eq] at hp
    obtain ⟨⟨⟨⟨⟨p1, p2⟩, p3⟩, p4⟩, p5⟩, p6⟩ := hp
    obtain ⟨k, hk⟩ : ∃ k : Nat, core = k := ⟨core.toNat, by omega⟩
    subst hk
    obtain ⟨S, hS⟩ : ∃ S : Nat, set = S := ⟨set.toNat, by omega⟩
    subst hS
    have hS16 : S < 16 := by
      have h1 : (2 : Int) ^ (k : Int).toNat = ((2 ^ k : Nat) : Int) := by simp
      have h2 : 2 ^ k ≤ 2 ^ 4 := Nat.pow_le_pow_right (by decide) (by omega)
      have h3 : (2 : Nat) ^ 4 = 16 := rfl
      have p5' := p5
      rw [h1] at p5'
      omega
    have HCN := Lib.hid (show cn = L.length from H.out.cn)
    have HRN := Lib.hid (renum_any L cq cc S X (ExL.ext HBX.out _ _ _ H.out.co) (by rw [← HCN.out]; exact H.out.cc) H.out.few (HG.out.on HBX.out) hS16)
    rw [← HCN.out] at HRN
    have lt := HKX.out.lt
    have c4 := HKX.out.c 4 _ rfl
    simp only at c4
    have hk4 : k ≤ 4 := by omega
    have HP3 := Lib.hid (show k ≤ tabs.length by omega)
    have HAR := Lib.hid p6
    have HSB := Lib.hid (show 1 ≤ S ∧ S < 2 ^ k by
      have h1 : (2 : Int) ^ (k : Int).toNat = ((2 ^ k : Nat) : Int) := by simp
      rw [h1] at p5
      omega)
    clear p1 p2 p3 p4 p5 p6
    go_wp2_with fail
    refine HRN.out.mono ?_
    rintro e Y ⟨⟨v, rfl, hOv⟩, hbY⟩
    obtain ⟨qr, cr, rfl, -, -, hLr⟩ := hOv.toL
    have hrl : (rankedE (S : Int) L).length ≤ L.length := by unfold rankedE; rw [List.length_map]; exact List.length_filter_le _ _
    have HRL := Lib.hid hrl
    have HBY := Lib.hid (HBX.out.trans (hbY.mono HBX.out.size))
    have HKY := Lib.hid (HKX.out.on hbY)
    have HNM := Lib.hid (normals_any (rankedE (S : Int) L) qr cr Y hLr (by have := HLN.out; omega) (HG.out.on HBY.out))
    clear hOv hLr hbY hrl HRN lt c4 HKX
    obtain ⟨nr, hnr⟩ : ∃ n, n = (rankedE (S : Int) L).length := ⟨_, rfl⟩
    rw [← hnr] at HNM HRL ⊢
    clear hnr
    go_wp2_with fail
    refine HNM.out.mono ?_
    rintro e Z ⟨⟨-, m, rfl, hm, hM⟩ | ⟨ha, rfl⟩, hbZ⟩
    rotate_left
    · exfalso; rw [ranked_right] at ha; cases ha
    have HBZ := Lib.hid (HBY.out.trans (hbZ.mono HBY.out.size))
    have HKZ := Lib.hid (HKY.out.on hbZ)
    have HMZ := Lib.hid hM
    clear hm hM hbZ HNM HKY
    have hcv := fun (w : World) (C : Array Value) (n c : Nat) => Lib.run_convert_bytes_const (P := Tryd.prog) w 62 5 C n c Tryd.underlying62 Tryd.underlying5
    have HN1 := Lib.hid (show 1 ≤ S ∧ S < 2 ^ k from HSB.out)
    go_upto_region 7 with fail
    have hcN : (Z.alloc (.cells #[.int .u8 83] 5 (1, 2))).cell? ⟨Z.heap.size, 0, none⟩ = some (.int .u8 83) := by rw [Lib.cell_of_heap (heap_alloc_new Z _)]; rfl
    have bN : Below Z.heap.size Z (Z.alloc (.cells #[.int .u8 83] 5 (1, 2))) := ext_alloc (ext_refl _) _
    obtain ⟨N, hN⟩ : ∃ N, N = Z.alloc (.cells #[.int .u8 83] 5 (1, 2)) := ⟨_, rfl⟩
    rw [← hN] at hcN bN ⊢
    clear hN hcv
    have HOS := Lib.hid (show OutS N Z.heap.size (.slice (some ⟨Z.heap.size, 0, none⟩) 1 1) [83] from .inr ⟨rfl, Z.heap.size, rfl, hcN⟩)
    have HBN := Lib.hid bN
    have HKN := HKZ.out.on bN
    have lt := HKN.lt
    have c0 := HKN.c 0 _ rfl
    have c1 := HKN.c 1 _ rfl
    simp only at c0 c1
    have HIT := Lib.hid (show IntsA w 0 w.heap.size tq tabs from H.out.t)
    have HTN := Lib.hid (show tn = tabs.length from H.out.tn)
    have htc : tn ≤ tc := H.out.tc.1
    have htc2 : tc ≤ 9223372036854775807 := H.out.tc.2
    have hktn : k ≤ tn := by rw [HTN.out]; exact HP3.out
    have HGS := Lib.hid (show 3 ≤ Z.heap.size from Nat.le_trans HG.out.size HBZ.out.size)
    clear hcN bN HKN
    obtain ⟨v0, hv0⟩ : ∃ v, v = Value.slice (some ⟨Z.heap.size, 0, none⟩) 1 1 := ⟨_, rfl⟩
    rw [← hv0] at HOS ⊢
    clear hv0
    go_wp2_with fail
    go_loopw [8, 36] (fun v8 v36 wr => ∃ i : Nat, v36 = .int .i64 i ∧ i ≤ k ∧ Hid (OutS wr Z.heap.size v8 (83 :: tabsT S 0 (tabs.take i)) ∧ Below Z.heap.size Z wr)) (fun _ v36 _ => ((k : Int) - intOf v36).toNat)
    case atStart => exact ⟨0, rfl, Nat.zero_le _, HOS.out, HBN.out⟩
    case round =>
      obtain ⟨i, rfl, hi, HH⟩ := hrel
      obtain ⟨V, hV⟩ : ∃ V, V = wr := ⟨_, rfl⟩
      rw [← hV] at HH
      rw [← hV]
      clear hV
      have HOV := Lib.hid HH.out.1
      have HBV := Lib.hid HH.out.2
      clear HH HOS HBN lt c0 c1
      by_cases hlt : i < k
      · have hit : i < tabs.length := Nat.lt_of_lt_of_le hlt HP3.out
        have ht : tabs[i]? = some (tabs[i]'hit) := List.getElem?_eq_getElem hit
        obtain ⟨tz, htz⟩ : ∃ z, z = tabs[i]'hit := ⟨_, rfl⟩
        rw [← htz] at ht
        have HTZ := Lib.hid (HTI.out tz (List.mem_of_getElem? ht))
        have HTS := Lib.hid (show tabsT S 0 (tabs.take (i + 1)) = tabsT S 0 (tabs.take i) ++ (if S.testBit i then Lib.itoa tz ++ [32] else []) by
          rw [take_snoc ht, tabsT_snoc, Nat.zero_add, List.length_take, Nat.min_eq_left (Nat.le_of_lt hit)])
        have HTL := Lib.hid (show (tabsT S 0 (tabs.take i)).length ≤ 22 * i by
          refine Nat.le_trans (tabsT_len S (tabs.take i) 0 fun t h => HTI.out t (List.mem_of_mem_take h)) ?_
          rw [List.length_take]
          have := Nat.min_le_left i tabs.length
          omega)
        obtain ⟨gt, ot, hqt, -, hgt, hct⟩ := HIT.out i hit
        have hcV : V.cell? ⟨gt, ot + i * 1, none⟩ = some (.int .i64 tz) := ((HBZ.out.trans (HBV.out.mono HBZ.out.size)).cell (p := ⟨gt, ot + i * 1, none⟩) hgt).trans (hct i tz ht)
        simp only [Nat.mul_one] at hcV
        subst hqt
        clear hct ht htz hit hgt
        have hsb := shr_bitS (s := S) (j := i) (by omega)
        obtain ⟨LT, hLT⟩ : ∃ l, l = tabsT S 0 (tabs.take i) := ⟨_, rfl⟩
        rw [← hLT] at HOV HTS HTL
        clear hLT
        cases hb : S.testBit i with
        | true =>
          rw [hb] at hsb
          rw [hb, if_pos rfl] at HTS
          have HAI := Lib.hid (appint_out Z.heap.size tz (83 :: LT) u8 V HTZ.out HOV.out HBV.out.size (HG.out.on (HBZ.out.trans (HBV.out.mono HBZ.out.size))) HGS.out (by rw [List.length_cons]; have := HTL.out; omega))
          clear hb
          go_wp2_with fail
          refine HAI.out.mono ?_
          rintro e Y ⟨v', rfl, h1, h2⟩
          have BA : Below Y.heap.size Y (Y.alloc (.cells #[.int .u8 32] 5)) := ext_alloc (ext_refl _) _
          have HY1 := Lib.hid (h1.later BA)
          have HBY := Lib.hid (HBV.out.trans h2)
          have HBYA := Lib.hid (HBY.out.trans (BA.mono HBY.out.size))
          obtain ⟨pv, nv, cv, rfl⟩ := h1.slice
          have hle : (toJ (83 :: LT ++ Lib.itoa tz)).length < 1099511627776 := by
            show ((83 :: LT ++ Lib.itoa tz).map _).length < _
            rw [List.length_map, List.length_append, List.length_cons]
            have h3 := HTL.out
            obtain ⟨a, b⟩ := inR_iff.1 HTZ.out
            have h4 := Lib.itoa_length_le tz a b
            omega
          clear h1 h2 BA HAI
          obtain ⟨LL, hLL⟩ : ∃ l, l = toJ (83 :: LT ++ Lib.itoa tz) := ⟨_, rfl⟩
          rw [← hLL] at HY1 hle
          have HLL := Lib.hid hLL
          clear hLL
          go_wp2_with (at_builtin; refine wp_append_byte2 rfl _ _ rfl Z.heap.size _ LL rfl HY1.out 32 Y.heap.size 1 rfl ?k1 hle ?k3 ?_)
          case k1 => simp [go_sem]
          case k3 => exact HBYA.out.size
          intro v2 w2 h1 _ h2
          have HN := Lib.hid (show OutS w2 Z.heap.size v2 (83 :: tabsT S 0 (tabs.take (i + 1))) from .inl (by
            rw [HTS.out]
            have e : toJ (83 :: (LT ++ (Lib.itoa tz ++ [32]))) = toJ (83 :: LT ++ Lib.itoa tz) ++ [32] := by
              rw [show (83 :: (LT ++ (Lib.itoa tz ++ [32])) : Bs) = (83 :: LT ++ Lib.itoa tz) ++ [32] by simp, toJ_app]
              rfl
            rw [e, ← HLL.out]; exact h1))
          have HB2 := Lib.hid (HBYA.out.trans h2)
          clear h1 h2 hle
          go_wp2_with fail
          go_roundw
          case rel => exact ⟨i + 1, by go_num, hlt, HN.out, HB2.out⟩
          case measure => simp [intOf] <;> omega
        | false =>
          rw [hb] at hsb
          rw [hb] at HTS
          simp only [Bool.false_eq_true, if_false, List.append_nil] at HTS
          have HNX := Lib.hid (show OutS V Z.heap.size u8 (83 :: tabsT S 0 (tabs.take (i + 1))) by rw [HTS.out]; exact HOV.out)
          clear hb
          go_wp2_with fail
          refine ⟨⟨i + 1, by go_num, hlt, HNX.out, HBV.out⟩, ?_⟩
          simp [intOf] <;> omega
      · obtain rfl : i = k := by omega
        have HTL := Lib.hid (show (tabsT S 0 (tabs.take i)).length ≤ 100 by
          refine Nat.le_trans (tabsT_len S (tabs.take i) 0 fun t h => HTI.out t (List.mem_of_mem_take h)) ?_
          rw [List.length_take]
          have := Nat.min_le_left i tabs.length
          omega)
        have hOB : OwnB V Z.heap.size u8 (toJ (83 :: tabsT S 0 (tabs.take i))) := by
          rcases HOV.out with h | ⟨h, -⟩
          · exact h
          · exfalso
            obtain ⟨j, hj1, hj2⟩ := some_bit ⟨S, hS16⟩ ⟨i, by omega⟩ HSB.out.1 HSB.out.2
            have hne := tabsT_ne S (tabs.take i) 0 j.val (by rw [List.length_take, Nat.min_eq_left HP3.out]; exact hj1) (by rw [Nat.zero_add]; exact hj2)
            simp only [List.cons.injEq, true_and] at h
            exact hne h
        obtain ⟨LT, hLT⟩ : ∃ l, l = tabsT S 0 (tabs.take i) := ⟨_, rfl⟩
        have HLT := Lib.hid hLT
        rw [← hLT] at HTL hOB
        have HOB := Lib.hid hOB
        have HBwV := Lib.hid (HBZ.out.trans (HBV.out.mono HBZ.out.size))
        have HMV := Lib.hid (HMZ.out.below (HBV.out))
        obtain ⟨pv, nv, cv, rfl⟩ := hOB.slice
        clear hLT hOB HOV
        go_wp2_with fail
        refine (mapKeysX_any (some m) V).mono ?_
        rintro e w3 ⟨rfl, rfl⟩
        go_wp2_with fail
        have hnr : nr ≤ 1048576 := Nat.le_trans HRL.out hLn
        refine (skeys_any V m nr Y.heap.size _ HMV.out (by omega)).mono ?_
        rintro e w4 ⟨⟨q, c, rfl, -, hOS⟩, hb4⟩
        have B3 : Below V.heap.size V (V.alloc (.cells #[.map (some m)] 56)) := ext_alloc (ext_refl _) _
        have b4 : Below V.heap.size V w4 := B3.trans (hb4.mono B3.size)
        have HPS := Lib.hid (fun x (hx : x ∈ sortE ((rankedE (S : Int) L).map Ex.norm)) => (show x.print.length ≤ 20300 from by
          obtain ⟨ok, D, -, -, hD⟩ := HMV.out
          have hxm := ((sortE_is (fun y hy => (right_iff8.1 (ok y hy)).1)).2 x).1 hx
          obtain ⟨r, -, hr⟩ := hD x hxm
          exact print_size (ExMP.toM _ _ hr) (ok x hxm)))
        have HKL := Lib.hid (show (sortE ((rankedE (S : Int) L).map Ex.norm)).length ≤ 1048576 from Nat.le_trans (sortE_len _) (by rw [List.length_map]; exact Nat.le_trans (by unfold rankedE; rw [List.length_map]; exact List.length_filter_le _ _) hLn))
        have HO2 := Lib.hid (show ofE tabs i L S = (83 :: (LT ++ textsT (sortE ((rankedE (S : Int) L).map Ex.norm))), 0) by rw [HO.out, HLT.out]; rfl)
        obtain ⟨K, hK⟩ : ∃ K, K = sortE ((rankedE (S : Int) L).map Ex.norm) := ⟨_, rfl⟩
        rw [← hK] at hOS HPS HKL HO2 ⊢
        have HOW := Lib.hid hOS
        have HOB4 := Lib.hid (HOB.out.later b4)
        have HB4 := Lib.hid (HBwV.out.trans (b4.mono HBwV.out.size))
        have HZ4 := Lib.hid (show Z.heap.size ≤ w4.heap.size from Nat.le_trans HBV.out.size b4.size)
        obtain ⟨kl, hkl⟩ : ∃ n, n = K.length := ⟨_, rfl⟩
        rw [← hkl] at HOW HKL ⊢
        have HKN := Lib.hid hkl
        have hkl6 : kl ≤ 1048576 := HKL.out
        clear hK hOS hb4 B3 b4 HOB HBwV HMV HBV hkl HLT HO
        go_wp2_with fail
        go_loopw [8, 57] (fun v8 v57 wr => ∃ j : Nat, v57 = .int .i64 j ∧ j ≤ kl ∧ Hid (OwnB wr Z.heap.size v8 (toJ (83 :: (LT ++ textsT (K.take j)))) ∧ Below w.heap.size w wr ∧ OwnF wr V.heap.size 9 1 (fun x : ByteArray => [Value.string x]) (.slice q kl c) (K.map fun x => bsB x.print) ∧ Z.heap.size ≤ wr.heap.size)) (fun _ v57 _ => ((kl : Int) - intOf v57).toNat)
        case atStart => exact ⟨0, rfl, Nat.zero_le _, by rw [List.take_zero, textsT, List.append_nil]; exact HOB4.out, HB4.out, HOW.out, HZ4.out⟩
        case round =>
          obtain ⟨j, rfl, hj, HH⟩ := hrel
          obtain ⟨U, hU⟩ : ∃ V, V = wr := ⟨_, rfl⟩
          rw [← hU] at HH
          rw [← hU]
          clear hU
          have HOU := Lib.hid HH.out.1
          have HBU := Lib.hid HH.out.2.1
          have HSU := Lib.hid HH.out.2.2.1
          have HZU := Lib.hid HH.out.2.2.2
          have HTT := Lib.hid (show (textsT (K.take j)).length ≤ 20301 * j by
            refine Nat.le_trans (textsT_len (K.take j) fun x hx => HPS.out x (List.mem_of_mem_take hx)) ?_
            rw [List.length_take]
            have := Nat.min_le_left j K.length
            exact Nat.mul_le_mul_left _ this)
          clear HH HOB4 HOW HB4 HZ4
          by_cases hlt : j < kl
          · obtain ⟨x, hx⟩ : ∃ x, K[j]? = some x := ⟨_, List.getElem?_eq_getElem (by rw [← HKN.out]; exact hlt)⟩
            have HXS := Lib.hid (HPS.out x (List.mem_of_getElem? hx))
            have HTS := Lib.hid (show textsT (K.take (j + 1)) = textsT (K.take j) ++ x.print ++ [59] by rw [take_snoc hx, textsT_snoc])
            obtain ⟨q', c', hq', -, -, -, hA⟩ := OwnF.arr (cells := fun x : ByteArray => [Value.string x]) (sz := 1) (fun _ => rfl) HSU.out
            simp only [Value.slice.injEq] at hq'
            obtain ⟨rfl, -, rfl⟩ := hq'
            obtain ⟨gs, os, hqs, -, hgs, hcell⟩ := hA j (by rw [List.length_map, ← HKN.out]; exact hlt)
            have hc := hcell j (bsB x.print) (by rw [List.getElem?_map, hx]; rfl) 0 _ rfl
            simp only [Nat.mul_one, Nat.add_zero] at hc
            subst hqs
            obtain ⟨TX_, hTX⟩ : ∃ t, t = textsT (K.take j) := ⟨_, rfl⟩
            rw [← hTX] at HOU HTS HTT
            obtain ⟨PX, hPX⟩ : ∃ t, t = x.print := ⟨_, rfl⟩
            rw [← hPX] at hc HXS HTS
            obtain ⟨SX, hSX⟩ : ∃ s, s = bsB PX := ⟨_, rfl⟩
            rw [← hSX] at hc
            have HSX := Lib.hid hSX
            obtain ⟨LL, hLL⟩ : ∃ l : Bs, l = 83 :: (LT ++ TX_) := ⟨_, rfl⟩
            rw [← hLL] at HOU
            have HLL := Lib.hid hLL
            have hlen1 : LL.length + PX.length ≤ 1099511627776 := by
              rw [hLL, List.length_cons, List.length_append]
              have h1 := HTT.out
              have h2 := HXS.out
              have h3 := HTL.out
              have h4 : 20301 * j ≤ 20301 * 1048576 := Nat.mul_le_mul_left _ (by omega)
              omega
            obtain ⟨pu, nu, cu, rfl⟩ := HOU.out.slice
            clear hx hcell hA hTX hPX hSX hLL hgs
            go_wp2_with (at_builtin; refine wp_append_text rfl _ _ rfl Z.heap.size _ LL rfl HOU.out PX SX HSX.out rfl hlen1 HZU.out ?_)
            intro v2 w2 h1 h2
            have h1 : OwnB w2 Z.heap.size v2 (toJ (LL ++ PX)) := by rw [toJ_app]; exact h1
            have hst := bytes_step HOU.out HSU.out HBU.out HBZ.out.size h2
            have HSW := Lib.hid hst.1
            have HBW := Lib.hid hst.2
            have HZW := Lib.hid (Nat.le_trans HZU.out h2.size)
            have BA : Below w2.heap.size w2 (w2.alloc (.cells #[.int .u8 59] 5)) := ext_alloc (ext_refl _) _
            have HO2A := Lib.hid (h1.later BA)
            have HSA := Lib.hid (HSW.out.later BA)
            have HBA := Lib.hid (HBW.out.trans (BA.mono HBW.out.size))
            have hle : (toJ (LL ++ PX)).length < 1099511627776 := by
              show ((LL ++ PX).map _).length < _
              rw [List.length_map, List.length_append]
              have h1 := HTT.out
              have h2 := HXS.out
              have h3 := HTL.out
              have h4 : 20301 * j ≤ 20301 * 1048576 := Nat.mul_le_mul_left _ (by omega)
              rw [HLL.out, List.length_cons, List.length_append]
              omega
            obtain ⟨pu2, nu2, cu2, rfl⟩ := h1.slice
            obtain ⟨LM, hLM⟩ : ∃ l, l = toJ (LL ++ PX) := ⟨_, rfl⟩
            rw [← hLM] at HO2A hle
            have HLM := Lib.hid hLM
            clear h1 h2 hst BA hLM hc HOU HSU HBU HZU
            go_wp2_with (at_builtin; refine wp_append_byte2 rfl _ _ rfl Z.heap.size _ LM rfl HO2A.out 59 w2.heap.size 1 rfl ?k1 hle ?k3 ?_)
            case k1 => simp [go_sem]
            case k3 => exact Nat.le_trans HZW.out (by simp)
            intro v3 w5 h1 h2 h3
            have hst := bytes_step HO2A.out HSA.out HBA.out HBZ.out.size h2
            have HNO := Lib.hid (show OwnB w5 Z.heap.size v3 (toJ (83 :: (LT ++ textsT (K.take (j + 1))))) by
              have e : toJ (83 :: (LT ++ textsT (K.take (j + 1)))) = toJ (LL ++ PX) ++ [59] := by
                rw [HTS.out, HLL.out, show (83 :: (LT ++ (TX_ ++ PX ++ [59])) : Bs) = (83 :: (LT ++ TX_) ++ PX) ++ [59] by simp, toJ_app]
                rfl
              rw [e, ← HLM.out]; exact h1)
            have HNS := Lib.hid hst.1
            have HNB := Lib.hid hst.2
            have HNZ := Lib.hid (show Z.heap.size ≤ w5.heap.size from Nat.le_trans HZW.out (Nat.le_trans (by simp) h2.size))
            clear h1 h2 h3 hst hle HO2A HSA HBA HSW HBW HZW
            go_wp2_with fail
            go_roundw
            case rel => exact ⟨j + 1, by go_num, hlt, HNO.out, HNB.out, HNS.out, HNZ.out⟩
            case measure => simp [intOf] <;> omega
          · have HE := Lib.hid (show K.take j = K by rw [show j = K.length by rw [← HKN.out]; omega, List.take_length])
            rw [HE.out] at HOU
            obtain ⟨pu, nu, cu, rfl⟩ := HOU.out.slice
            have hconv := conv_own HOU.out
            obtain ⟨R, hR⟩ : ∃ s, s = bsB (83 :: (LT ++ textsT K)) := ⟨_, rfl⟩
            rw [← hR] at hconv
            have HR := Lib.hid hR
            clear hR
            go_wp2_with fail
            refine bodyPost_ret (v := .tuple #[.string R, .int .i64 0]) (by simp [results, Tryd.results18, go_sem]) rfl ⟨?_, HBU.out⟩
            rw [HO2.out, HR.out]
open Go.RowKit Go.Maps Go.ChangeShapes Go.Deep Go.Shelf
set_option maxRecDepth 100000
theorem ex_leaf {w : World} {P : Nat → Prop} {op : Int} {v : Val} {rel col n : Int} {s : ByteArray} {cs : List Value} (h : ExMP w P (.mk op v rel col n s []) cs) : ∃ q c, cs = exCells op v rel col n s q 0 c := by
  rw [ExMP.iff] at h
  obtain ⟨-, q, c, rfl, -, -⟩ := h
  exact ⟨q, c, rfl⟩
theorem ex_two {w : World} {P : Nat → Prop} {op : Int} {v : Val} {rel col n : Int} {s : ByteArray} {a b : Ex} {cs : List Value} (h : ExMP w P (.mk op v rel col n s [a, b]) cs) : ∃ g off c ca cb, cs = exCells op v rel col n s (some ⟨g, off, none⟩) 2 c ∧ 2 ≤ c ∧ g < w.heap.size ∧ ExMP w P a ca ∧ ExMP w P b cb ∧
    (∀ (k : Nat) u, ca[k]? = some u → w.cell? ⟨g, off + k, none⟩ = some u) ∧ ∀ (k : Nat) u, cb[k]? = some u → w.cell? ⟨g, off + 9 + k, none⟩ = some u := by
  rw [ExMP.iff] at h
  obtain ⟨-, q, c, rfl, hc, hl⟩ := h
  obtain ⟨g, off, ca, hq, hg, -, ha, hca⟩ := ExLP.at_ (j := 0) (x := a) hl rfl
  obtain ⟨g', off', cb, hq', -, -, hb, hcb⟩ := ExLP.at_ (j := 1) (x := b) hl rfl
  subst hq
  obtain ⟨rfl, rfl⟩ : g = g' ∧ off = off' := by simpa using hq'
  refine ⟨g, off, c, ca, cb, rfl, hc, hg, ha, hb, fun k u hu => ?_, fun k u hu => ?_⟩
  · have := hca k u hu; simpa using this
  · have := hcb k u hu; simpa using this
abbrev rfX (rel col : Int) : Ex := .mk 2 zeroVal rel col 0 ⟨#[]⟩ []
abbrev nmX (k : Int) : Ex := .mk 1 (num k) 0 0 0 ⟨#[]⟩ []
abbrev opX (op : Int) (a b : Ex) : Ex := .mk op zeroVal 0 0 0 ⟨#[]⟩ [a, b]
theorem rfX_in (w : World) (P : Nat → Prop) (rel col : Int) : ExMP w P (rfX rel col) (exCells 2 zeroVal rel col 0 ⟨#[]⟩ none 0 0) := ExMP.iff.2 ⟨⟨by decide, by decide, by decide⟩, none, 0, rfl, Nat.le_refl _, by rw [ExLP]; trivial⟩
theorem nmX_in (w : World) (P : Nat → Prop) (k : Int) (hk : inR k = true) : ExMP w P (nmX k) (exCells 1 (num k) 0 0 0 ⟨#[]⟩ none 0 0) := ExMP.iff.2 ⟨⟨(by decide : inR 1 = true), hk, (by decide : (0 : Nat) ≤ maxLen)⟩, none, 0, rfl, Nat.le_refl _, by rw [ExLP]; trivial⟩
theorem opX_in (w : World) (T : TypeId) (op : Int) (a b : Ex) (ca cb : List Value) (ha : ExM (w.alloc (.cells (ca ++ cb).toArray T)) a ca) (hb : ExM (w.alloc (.cells (ca ++ cb).toArray T)) b cb) : ExM (w.alloc (.cells (ca ++ cb).toArray T)) (opX op a b) (exCells op zeroVal 0 0 0 ⟨#[]⟩ (some ⟨w.heap.size, 0, none⟩) 2 2) :=
  ExM.iff.2 ⟨⟨by decide, by decide, by decide⟩, _, 2, rfl, Nat.le_refl _, ExLP.toL _ _ _ (ExLP.two (P := fun _ => True) (ExMP.on (Nat.le_refl _) (fun _ _ _ => rfl) (fun _ _ _ => trivial) _ _ (ExM.toP _ _ ha)) (ExMP.on (Nat.le_refl _) (fun _ _ _ => rfl) (fun _ _ _ => trivial) _ _ (ExM.toP _ _ hb)) (by simp) trivial fun k u hu => by rw [Lib.cell_of_heap (heap_alloc_new w _), List.getElem?_toArray]; exact hu)⟩
theorem intsA_new (w : World) (T : TypeId) (l : List Int) : IntsA (w.alloc (.cells (l.map (Value.int .i64)).toArray T)) 0 (w.alloc (.cells (l.map (Value.int .i64)).toArray T)).heap.size (some ⟨w.heap.size, 0, none⟩) l := fun i hi => ⟨w.heap.size, 0, rfl, Nat.zero_le _, by simp, fun j x hx => by
  show World.cell? _ ⟨w.heap.size, 0 + j * 1, none⟩ = some (.int .i64 x)
  rw [Lib.cell_of_heap (heap_alloc_new w _), List.getElem?_toArray, Nat.zero_add, Nat.mul_one, List.getElem?_map, hx]
  rfl⟩
theorem eg_n1 : normR (opX 13 (rfX 1 0) (nmX 5)) = opX 11 (nmX 5) (rfX 1 0) ∧ errR (opX 13 (rfX 1 0) (nmX 5)) = 0 := by
  have h : rightE (opX 13 (rfX 1 0) (nmX 5)) = true := by decide +kernel
  unfold normR errR
  rw [if_pos h, if_pos h]
  exact ⟨by kernel_rfl, rfl⟩
theorem eg_n2 : normR (opX 9 (rfX 1 0) (rfX 0 0)) = opX 9 (rfX 0 0) (rfX 1 0) ∧ errR (opX 9 (rfX 1 0) (rfX 0 0)) = 0 := by
  have h : rightE (opX 9 (rfX 1 0) (rfX 0 0)) = true := by decide +kernel
  unfold normR errR
  rw [if_pos h, if_pos h]
  exact ⟨by kernel_rfl, rfl⟩
theorem eg_of : ofE [3] 1 [] 1 = ([83, 51, 32], 0) := by kernel_rfl
theorem dof_eg (w : World) (g : Nat) (hg : g = w.heap.size) (hG : GE (w.alloc (.cells #[.int .i64 3] 3))) : Calls Tryd.prog 18 #[.agg #[.slice (some ⟨g, 0, none⟩) 1 1, .int .i64 1, .slice none 0 0, .slice none 0 0, .slice none 0 0, .slice none 0 0, .slice none 0 0, .bool false, .slice none 0 0, .slice none 0 0, .bool false], .int .i64 1] (w.alloc (.cells #[.int .i64 3] 3)) fun e w' => e = .returned (.tuple #[.string (bsB [83, 51, 32]), .int .i64 0]) ∧ Below (w.alloc (.cells #[.int .i64 3] 3)).heap.size (w.alloc (.cells #[.int .i64 3] 3)) w' := by
  subst hg
  obtain ⟨r, hr⟩ : ∃ r : RawK, r = ⟨⟨some ⟨w.heap.size, 0, none⟩, 1, 1⟩, 1, ⟨none, 0, 0⟩, ⟨none, 0, 0⟩, ⟨none, 0, 0⟩, ⟨none, 0, 0⟩, ⟨none, 0, 0⟩, false, ⟨none, 0, 0⟩, ⟨none, 0, 0⟩, false⟩ := ⟨_, rfl⟩
  have BI : BlkIn (w.alloc (.cells #[.int .i64 3] 3)) r [3] [] := by
    subst hr
    exact ⟨rfl, ⟨Nat.le_refl 1, (by decide : 1 ≤ 9223372036854775807)⟩, intsA_new w 3 [3], rfl, ⟨Nat.le_refl 0, Nat.zero_le _⟩, by rw [ExL]; trivial, by decide⟩
  have hc : r.core = 1 := by rw [hr]
  have h := dof_any r [3] [] 1 _ BI hG (by decide) (by rw [hc]; decide) (by decide) (by decide)
  rw [hc, eg_of] at h
  rw [hr] at h
  exact h
set_option maxHeartbeats 8000000 in
theorem examples12_any (w : World) (hG : GE w) : Calls Tryd.prog 8 #[] w fun e w' => e = .returned (.bool true) ∧ Below w.heap.size w w' := by
  have HG := Lib.hid hG
  clear hG
  go_enter Tryd.func8, Tryd.ntmps8
  go_wp2_with fail
  have X1 := opX_in (w.alloc (.cells (exCells 1 (num 5) 0 0 0 ⟨#[]⟩ none 0 0).toArray 26)) 26 13 (rfX 1 0) (nmX 5) _ _ (ExMP.toM _ _ (rfX_in _ (fun _ => True) 1 0)) (ExMP.toM _ _ (nmX_in _ (fun _ => True) 5 (by decide)))
  have B1 : Below w.heap.size w ((w.alloc (.cells (exCells 1 (num 5) 0 0 0 ⟨#[]⟩ none 0 0).toArray 26)).alloc (.cells (exCells 2 zeroVal 1 0 0 ⟨#[]⟩ none 0 0 ++ exCells 1 (num 5) 0 0 0 ⟨#[]⟩ none 0 0).toArray 26)) := by (repeat (first | exact ext_refl _ | assumption | (refine ext_alloc ?_ _) | (refine ext_drewN ?_ _) | refine ext_drew ?_ | (refine ext_set (by first | (simp; done) | (simp; omega)) _ ?_) | (refine ext_trans ?_ (by assumption))))
  rw [World.size_alloc] at X1
  change Calls Tryd.prog 10 #[.agg (exCells 13 zeroVal 0 0 0 ⟨#[]⟩ (some ⟨w.heap.size + 1, 0, none⟩) 2 2).toArray] ((w.alloc (.cells (exCells 1 (num 5) 0 0 0 ⟨#[]⟩ none 0 0).toArray 26)).alloc (.cells (exCells 2 zeroVal 1 0 0 ⟨#[]⟩ none 0 0 ++ exCells 1 (num 5) 0 0 0 ⟨#[]⟩ none 0 0).toArray 26)) _
  generalize (w.alloc (.cells (exCells 1 (num 5) 0 0 0 ⟨#[]⟩ none 0 0).toArray 26)).alloc (.cells (exCells 2 zeroVal 1 0 0 ⟨#[]⟩ none 0 0 ++ exCells 1 (num 5) 0 0 0 ⟨#[]⟩ none 0 0).toArray 26) = W1 at X1 B1 ⊢
  refine (dnormal_any _ _ W1 X1 (HG.out.on B1)).mono ?_
  rintro e Y ⟨⟨r1, rfl, hP1⟩, hb1⟩
  rw [eg_n1.1] at hP1
  rw [eg_n1.2]
  have HB1 := Lib.hid (B1.trans (hb1.mono B1.size))
  have HP1 := Lib.hid hP1
  obtain ⟨g1, o1, c1, ca1, cb1, hr1, -, hg1, -, hcb1, -, hcell1⟩ := ex_two hP1
  obtain ⟨qx1, cx1, rfl⟩ := ex_leaf hcb1
  have e1 := RawE.inj (r' := ⟨11, zeroVal, 0, 0, 0, ⟨#[]⟩, some ⟨g1, o1, none⟩, 2, c1⟩) hr1
  subst e1
  have f1 := hcell1 4 _ rfl
  clear X1 B1 hb1 hP1 hr1 hcb1 hcell1
  go_wp2_with fail
  have K1 := KB.new Y (exCells 11 zeroVal 0 0 0 ⟨#[]⟩ (some ⟨g1, o1, none⟩) 2 c1) 26
  have X2 := opX_in (Y.alloc (.cells (exCells 11 zeroVal 0 0 0 ⟨#[]⟩ (some ⟨g1, o1, none⟩) 2 c1).toArray 26)) 26 9 (rfX 1 0) (rfX 0 0) _ _ (ExMP.toM _ _ (rfX_in _ (fun _ => True) 1 0)) (ExMP.toM _ _ (rfX_in _ (fun _ => True) 0 0))
  have B2 : Below Y.heap.size Y ((Y.alloc (.cells (exCells 11 zeroVal 0 0 0 ⟨#[]⟩ (some ⟨g1, o1, none⟩) 2 c1).toArray 26)).alloc (.cells (exCells 2 zeroVal 1 0 0 ⟨#[]⟩ none 0 0 ++ exCells 2 zeroVal 0 0 0 ⟨#[]⟩ none 0 0).toArray 26)) := by (repeat (first | exact ext_refl _ | assumption | (refine ext_alloc ?_ _) | (refine ext_drewN ?_ _) | refine ext_drew ?_ | (refine ext_set (by first | (simp; done) | (simp; omega)) _ ?_) | (refine ext_trans ?_ (by assumption))))
  have K1 := K1.on (ext_alloc (ext_refl _) (.cells (exCells 2 zeroVal 1 0 0 ⟨#[]⟩ none 0 0 ++ exCells 2 zeroVal 0 0 0 ⟨#[]⟩ none 0 0).toArray 26))
  rw [World.size_alloc] at X2
  change Calls Tryd.prog 10 #[.agg (exCells 9 zeroVal 0 0 0 ⟨#[]⟩ (some ⟨Y.heap.size + 1, 0, none⟩) 2 2).toArray] ((Y.alloc (.cells (exCells 11 zeroVal 0 0 0 ⟨#[]⟩ (some ⟨g1, o1, none⟩) 2 c1).toArray 26)).alloc (.cells (exCells 2 zeroVal 1 0 0 ⟨#[]⟩ none 0 0 ++ exCells 2 zeroVal 0 0 0 ⟨#[]⟩ none 0 0).toArray 26)) _
  generalize (Y.alloc (.cells (exCells 11 zeroVal 0 0 0 ⟨#[]⟩ (some ⟨g1, o1, none⟩) 2 c1).toArray 26)).alloc (.cells (exCells 2 zeroVal 1 0 0 ⟨#[]⟩ none 0 0 ++ exCells 2 zeroVal 0 0 0 ⟨#[]⟩ none 0 0).toArray 26) = W2 at X2 B2 K1 ⊢
  have f1 : W2.cell? ⟨g1, o1 + 9 + 4, none⟩ = some (.int .i64 1) := (B2.cell (p := ⟨g1, o1 + 9 + 4, none⟩) hg1).trans f1
  have hg1 : g1 < W2.heap.size := Nat.lt_of_lt_of_le hg1 B2.size
  refine (dnormal_any _ _ W2 X2 (HG.out.on (HB1.out.trans (B2.mono HB1.out.size)))).mono ?_
  rintro e Z ⟨⟨r2, rfl, hP2⟩, hb2⟩
  rw [eg_n2.1] at hP2
  rw [eg_n2.2]
  have HB2 := Lib.hid (HB1.out.trans ((B2.trans (hb2.mono B2.size)).mono HB1.out.size))
  obtain ⟨g2, o2, c2, ca2, cb2, hr2, -, hg2, hca2, -, hcell2, -⟩ := ex_two hP2
  obtain ⟨qx2, cx2, rfl⟩ := ex_leaf hca2
  have e2 := RawE.inj (r' := ⟨9, zeroVal, 0, 0, 0, ⟨#[]⟩, some ⟨g2, o2, none⟩, 2, c2⟩) hr2
  subst e2
  have f2 := hcell2 4 _ rfl
  have K1 := K1.on hb2
  have f1 : Z.cell? ⟨g1, o1 + 9 + 4, none⟩ = some (.int .i64 1) := (hb2.cell (p := ⟨g1, o1 + 9 + 4, none⟩) hg1).trans f1
  have hg1 : g1 < Z.heap.size := Nat.lt_of_lt_of_le hg1 hb2.size
  obtain ⟨ga, hga⟩ : ∃ g, g = Y.heap.size := ⟨_, rfl⟩
  rw [← hga] at K1 ⊢
  clear X2 B2 hb2 hP2 hr2 hca2 hcell2 hga HB1
  have ltA := K1.lt
  have a0 := K1.c 0 _ rfl
  have a8 := K1.c 8 _ rfl
  clear K1
  go_wp2_with fail
  have K2 := KB.new Z (exCells 9 zeroVal 0 0 0 ⟨#[]⟩ (some ⟨g2, o2, none⟩) 2 c2) 26
  have B3 : Below Z.heap.size Z ((Z.alloc (.cells (exCells 9 zeroVal 0 0 0 ⟨#[]⟩ (some ⟨g2, o2, none⟩) 2 c2).toArray 26)).alloc (.cells #[.int .i64 3] 3)) := by (repeat (first | exact ext_refl _ | assumption | (refine ext_alloc ?_ _) | (refine ext_drewN ?_ _) | refine ext_drew ?_ | (refine ext_set (by first | (simp; done) | (simp; omega)) _ ?_) | (refine ext_trans ?_ (by assumption))))
  have K2 := K2.on (ext_alloc (ext_refl _) (.cells #[.int .i64 3] 3))
  refine Calls.mono (dof_eg (Z.alloc (.cells (exCells 9 zeroVal 0 0 0 ⟨#[]⟩ (some ⟨g2, o2, none⟩) 2 c2).toArray 26)) (Z.heap.size + 1) (by rw [World.size_alloc]) (HG.out.on (HB2.out.trans (B3.mono HB2.out.size)))) ?_
  rintro e V ⟨rfl, hb3⟩
  have HB3 := Lib.hid (HB2.out.trans ((B3.trans (hb3.mono B3.size)).mono HB2.out.size))
  have K2 := K2.on hb3
  have f1 : V.cell? ⟨g1, o1 + 9 + 4, none⟩ = some (.int .i64 1) := ((B3.trans (hb3.mono B3.size)).cell (p := ⟨g1, o1 + 9 + 4, none⟩) hg1).trans f1
  have f2 : V.cell? ⟨g2, o2 + 4, none⟩ = some (.int .i64 0) := ((B3.trans (hb3.mono B3.size)).cell (p := ⟨g2, o2 + 4, none⟩) hg2).trans f2
  have a0 : V.cell? ⟨ga, 0, none⟩ = some (.int .i64 11) := ((B3.trans (hb3.mono B3.size)).cell (p := ⟨ga, 0, none⟩) ltA).trans a0
  have a8 := ((B3.trans (hb3.mono B3.size)).cell (p := ⟨ga, 8, none⟩) ltA).trans a8
  have ltA : ga < V.heap.size := Nat.lt_of_lt_of_le ltA (B3.trans (hb3.mono B3.size)).size
  have hg1 : g1 < V.heap.size := Nat.lt_of_lt_of_le hg1 (B3.trans (hb3.mono B3.size)).size
  have hg2 : g2 < V.heap.size := Nat.lt_of_lt_of_le hg2 (B3.trans (hb3.mono B3.size)).size
  obtain ⟨gb, hgb⟩ : ∃ g, g = Z.heap.size := ⟨_, rfl⟩
  rw [← hgb] at K2 ⊢
  have ltB := K2.lt
  have b8 := K2.c 8 _ rfl
  clear B3 hb3 K2 hgb HB2
  go_wp2_with fail
  refine bodyPost_ret (v := .bool true) (by simp [results, Tryd.results8, go_sem]) rfl ⟨rfl, HB3.out⟩
open Go.RowKit Go.Maps Go.ChangeShapes Go.Deep Go.Shelf
set_option maxRecDepth 100000
theorem KB.one {W : World} {g : Nat} {x : Ex} {cs : List Value} (h : KB W g cs) (hx : ExM W x cs) : ExL W (some ⟨g, 0, none⟩) 0 [x] :=
  ExLP.toL _ _ _ (ExLP.one (P := fun _ => True) (ExMP.on (Nat.le_refl _) (fun _ _ _ => rfl) (fun _ _ _ => trivial) _ _ (ExM.toP _ _ hx)) h.lt trivial h.c)
theorem new_block (W : World) (cs : List Value) (T : TypeId) (g : Nat) (hg : g = W.heap.size) : ∃ W', W.alloc (.cells cs.toArray T) = W' ∧ KB W' g cs ∧ Below W.heap.size W W' ∧ g + 1 = W'.heap.size := by
  subst hg
  exact ⟨_, rfl, KB.new W cs T, ext_alloc (ext_refl _) _, (World.size_alloc _ _).symm⟩
theorem calls_world {f : Nat} {a : Array Value} {W W' : World} {Q : Ending → World → Prop} (h : Calls Tryd.prog f a W' Q) (e : W = W') : Calls Tryd.prog f a W Q := e ▸ h
open Go.RowKit Go.Maps Go.ChangeShapes Go.Deep Go.Shelf
set_option maxRecDepth 100000
theorem ExMP.up {w w' : World} {P : Nat → Prop} {x : Ex} {cs : List Value} (h : ExMP w P x cs) (hb : Below w.heap.size w w') : ExMP w' P x cs := ExMP.on hb.size (fun k _ hk => hb.block k hk) (fun _ h _ => h) _ _ h
end Go.Proofs.YtklgoajgchfmeaaDoor
