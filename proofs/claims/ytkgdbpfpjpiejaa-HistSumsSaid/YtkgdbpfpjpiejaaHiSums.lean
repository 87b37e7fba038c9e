/- Of any steps and value the law HistSums answers true: those below, at and above the value are all of them; for all arguments. -/
import Derived.Test.YtkgdbpfpjpiejaaHiE
import Derived.Test.YtkgdbpfpjpiejaaHiS
import Derived.Test.YtkgdbpfpjpiejaaHiO
namespace Go.Proofs.Ytkgdbpfpjpiejaa
open Go.ChangeShapes Go.WideShapes Go.ChangeAt Go.RowKit Go.Joins Go.Deep
set_option linter.unusedVariables false
set_option linter.unusedSimpArgs false
set_option maxRecDepth 100000

theorem adj_neg {m : Int} (h : m < 0) : (-(m + 1)).tmod 101 = adj m := by unfold adj; rw [if_pos h]; exact Int.tmod_eq_emod_of_nonneg (by omega)
theorem adj_pos {m : Int} (h : 0 ≤ m) : m.tmod 101 = adj m := by unfold adj; rw [if_neg (by omega)]; exact Int.tmod_eq_emod_of_nonneg h
theorem inR_of {m : Int} (h : inR m = true) : -9223372036854775808 ≤ m ∧ m ≤ 9223372036854775807 := by simpa [inR] using h
theorem map_snoc {l : List Stp} {i : Nat} {s : Stp} (h : l[i]? = some s) : (l.take (i + 1)).map mkS = (l.take i).map mkS ++ [mkS s] := by
  rw [List.take_add_one, h, List.map_append]; rfl

set_option maxHeartbeats 16000000 in
theorem sums_walk (q : Option Addr) (l : List Stp) (c : Nat) (v : Val) (w : World) (hf : ∀ s ∈ l, FitS s) (h : StepsA w 0 w.heap.size q l) :
    Calls Try.prog 8 #[.slice q l.length c, v.v] w fun e w' => e = .returned (.bool true) ∧ Below w.heap.size w w' := by
  obtain ⟨n, hn⟩ : ∃ n, n = l.length := ⟨_, rfl⟩
  rw [← hn]
  have HN := Lib.hid hn
  have H := Lib.hid h
  have HF := Lib.hid hf
  clear hn h hf
  obtain ⟨vk, vn, vs⟩ := v
  go_enter Try.func8, Try.ntmps8
  go_upto_region 1 with fail
  obtain ⟨b, hb⟩ : ∃ b, b = w.heap.size := ⟨_, rfl⟩
  obtain ⟨V, hV⟩ : ∃ V, V = w.alloc (.cells #[.int .i64 vk, .int .i64 vn, .string vs] 31) := ⟨_, rfl⟩
  rw [← hV]
  have HB := Lib.hid (show Below w.heap.size w V from by rw [hV]; exact ext_alloc (ext_refl _) _)
  have l0 : b < V.heap.size := by rw [hV, hb]; simp
  have k0 : V.cell? ⟨b, 0, none⟩ = some (.int .i64 vk) := by rw [hV, hb]; simp [go_sem]
  have k1 : V.cell? ⟨b, 1, none⟩ = some (.int .i64 vn) := by rw [hV, hb]; simp [go_sem]
  have k2 : V.cell? ⟨b, 2, none⟩ = some (.string vs) := by rw [hV, hb]; simp [go_sem]
  rw [← hb]
  clear hV hb
  go_upto_region 2 with (go_at_call 9; refine (examples13_any _).mono ?_; rintro e W1 ⟨rfl, hb⟩)
  replace k0 := (hb.cell (p := ⟨b, _, none⟩) l0).trans k0
  replace k1 := (hb.cell (p := ⟨b, _, none⟩) l0).trans k1
  replace k2 := (hb.cell (p := ⟨b, _, none⟩) l0).trans k2
  replace l0 := Nat.lt_of_lt_of_le l0 hb.size
  replace HB := Lib.hid (HB.out.trans (hb.mono HB.out.size))
  clear hb
  go_wp2_with fail
  obtain ⟨g, hg⟩ : ∃ g, g = W1.heap.size := ⟨_, rfl⟩
  have hgb : b < g := by rw [hg]; exact l0
  have HX0 := Lib.hid (show HBox W1 (W1.alloc (.cells #[.int .i64 0, .int .i64 0, .slice none 0 0] 29)) g 0 0 (.slice none 0 0) [] by rw [hg]; exact HBox.new 0 0)
  rw [← hg]
  have HWG := Lib.hid hg
  clear hg
  go_loopw [7, 8, 9] (fun va vo vi wr => ∃ (i : Nat) (za zo : Int) (vt : Value), vi = .int .i64 i ∧ va = .int .i64 za ∧ vo = .int .i64 zo ∧ i ≤ n ∧ i ≤ 20 ∧ Hid (za = pl (atV ⟨vk, vn, vs⟩) ((l.take i).map mkS)) ∧ Hid (zo = pl (overV ⟨vk, vn, vs⟩) ((l.take i).map mkS)) ∧ Hid (HBox W1 wr g 0 0 vt ((l.take i).map mkS))) (fun _ _ vi _ => 20 - (intOf vi).toNat)
  case atStart => exact ⟨0, 0, 0, _, rfl, rfl, rfl, Nat.zero_le _, Nat.zero_le _, rfl, rfl, HX0.out⟩
  case round =>
    obtain ⟨i, za, zo, vt, rfl, rfl, rfl, hi, hi2, ha, ho, hX⟩ := hrel
    obtain ⟨X, hXX⟩ : ∃ X, X = wr := ⟨_, rfl⟩
    rw [← hXX] at hX
    rw [← hXX]
    have HX := Lib.hid hX.out
    have HA := Lib.hid ha.out
    have HO := Lib.hid ho.out
    clear hX ha ho hXX
    have hlen : ((l.take i).map mkS).length = i := by rw [List.length_map, List.length_take, ← HN.out]; omega
    have hba := pl_le (atV ⟨vk, vn, vs⟩) ((l.take i).map mkS) (mk_le _)
    have hbo := pl_le (overV ⟨vk, vn, vs⟩) ((l.take i).map mkS) (mk_le _)
    rw [hlen, ← HA.out] at hba
    rw [hlen, ← HO.out] at hbo
    have BX := Lib.hid (show Below w.heap.size w X from HB.out.trans (HX.out.bel.mono (by rw [HWG.out]; exact HB.out.size)))
    replace k0 := (HX.out.bel.cell (p := ⟨b, _, none⟩) hgb).trans k0
    replace k1 := (HX.out.bel.cell (p := ⟨b, _, none⟩) hgb).trans k1
    replace k2 := (HX.out.bel.cell (p := ⟨b, _, none⟩) hgb).trans k2
    replace l0 := Nat.lt_of_lt_of_le l0 HX.out.bel.size
    obtain ⟨qt, ct, hvt, -, -, hst⟩ := HX.out.own.read
    rw [hlen] at hvt
    subst hvt
    have g2 := HX.out.c2
    have gl := HX.out.lt
    have gf := HX.out.fr
    obtain ⟨K, hK⟩ : ∃ K, K = (l.take i).map mkS := ⟨_, rfl⟩
    rw [← hK] at HX HA HO hlen hst
    have HK := Lib.hid hK
    clear hK
    have HLEN := Lib.hid hlen
    have HST := Lib.hid hst
    clear hlen hst
    by_cases hlt : i < n
    · by_cases hlt2 : i < 20
      · have hml : i < l.length := by rw [← HN.out]; omega
        obtain ⟨e, off, hq, -, he, ⟨hc0, hc1, hc2⟩, hc3⟩ := ArrA.at_ (StepsA.same H.out (Same.of BX.out (Nat.le_refl _))) hml
        subst hq
        obtain ⟨s, hs⟩ : ∃ s, s = l[i] := ⟨_, rfl⟩
        rw [← hs] at hc0 hc1 hc2 hc3
        have HS := Lib.hid (show l[i]? = some s by rw [hs, List.getElem?_eq_getElem hml])
        have hel : e < X.heap.size := Nat.lt_of_lt_of_le he BX.out.size
        have fits := inR_of (HF.out s (by rw [hs]; exact List.getElem_mem hml)).2.2.2
        have hadj := adj_le s.m
        have hneg := fun h => adj_neg (m := s.m) h
        have hpos := fun h => adj_pos (m := s.m) h
        have CM := fun W => compare_any s.x ⟨vk, vn, vs⟩ W
        have c3w := cmp_tri s.x ⟨vk, vn, vs⟩
        have HM := Lib.hid (show (l.take (i + 1)).map mkS = (l.take i).map mkS ++ [⟨s.x, adj s.m⟩] from map_snoc HS.out)
        have HPA := Lib.hid (show atV ⟨vk, vn, vs⟩ ⟨s.x, adj s.m⟩ = (s.x.cmp ⟨vk, vn, vs⟩ == 0) from rfl)
        have HPO := Lib.hid (show overV ⟨vk, vn, vs⟩ ⟨s.x, adj s.m⟩ = (s.x.cmp ⟨vk, vn, vs⟩ == 1) from rfl)
        obtain ⟨ci, hci⟩ : ∃ ci, ci = s.x.cmp ⟨vk, vn, vs⟩ := ⟨_, rfl⟩
        rw [← hci] at CM c3w HPA HPO
        clear hs he hci
        obtain ⟨⟨xk, xn, xs⟩, sm⟩ := s
        simp only at hc0 hc1 hc2 hc3 fits hadj hneg hpos CM HM HPA HPO
        obtain ⟨am, ham⟩ : ∃ am, am = adj sm := ⟨_, rfl⟩
        rw [← ham] at hadj hneg hpos HM HPA HPO
        clear ham
        have wam : IntKind.i64.wrap am = am := by rw [IntKind.wrap_i64]; omega
        have wza : IntKind.i64.wrap (za + am) = za + am := by rw [IntKind.wrap_i64]; omega
        have wzo : IntKind.i64.wrap (zo + am) = zo + am := by rw [IntKind.wrap_i64]; omega
        have HOWN := Lib.hid HX.out.own
        have done : ∀ (za' zo' : Int), za' = za + (if ci = 0 then am else 0) → zo' = zo + (if ci = 1 then am else 0) → za' = pl (atV ⟨vk, vn, vs⟩) ((l.take (i + 1)).map mkS) ∧ zo' = pl (overV ⟨vk, vn, vs⟩) ((l.take (i + 1)).map mkS) := by
          intro za' zo' h1 h2
          rw [HM.out, ← HK.out, pl_snoc, pl_snoc, HPA.out, HPO.out, ← HA.out, ← HO.out, h1, h2]
          simp
        have DONE := Lib.hid done
        clear done
        by_cases hm0 : sm < 0
        · have hmod := hneg hm0
          have w1 : IntKind.i64.wrap (sm + 1) = sm + 1 := by rw [IntKind.wrap_i64]; omega
          have w2 : IntKind.i64.wrap (-(sm + 1)) = -(sm + 1) := by rw [IntKind.wrap_i64]; omega
          clear hneg hpos
          go_upto_region 12 with fail
          obtain ⟨Y, hY⟩ : ∃ Y, Y = X.alloc (.cells #[.int .i64 xk, .int .i64 xn, .string xs, .int .i64 am] 39) := ⟨_, rfl⟩
          rw [← hY]
          obtain ⟨sb, hsb⟩ : ∃ sb, sb = X.heap.size := ⟨_, rfl⟩
          have BY : Below X.heap.size X Y := by rw [hY]; exact ext_alloc (ext_refl _) _
          have s0 : Y.cell? ⟨sb, 0, none⟩ = some (.int .i64 xk) := by rw [hY, hsb]; simp [go_sem]
          have s1 : Y.cell? ⟨sb, 1, none⟩ = some (.int .i64 xn) := by rw [hY, hsb]; simp [go_sem]
          have s2 : Y.cell? ⟨sb, 2, none⟩ = some (.string xs) := by rw [hY, hsb]; simp [go_sem]
          have s3 : Y.cell? ⟨sb, 3, none⟩ = some (.int .i64 am) := by rw [hY, hsb]; simp [go_sem]
          have sl : sb < Y.heap.size := by rw [hY, hsb]; simp
          rw [← hsb]
          have HXY := Lib.hid (HX.out.later BY)
          replace k0 := (BY.cell (p := ⟨b, _, none⟩) l0).trans k0
          replace k1 := (BY.cell (p := ⟨b, _, none⟩) l0).trans k1
          replace k2 := (BY.cell (p := ⟨b, _, none⟩) l0).trans k2
          replace l0 := Nat.lt_of_lt_of_le l0 BY.size
          have HOB := Lib.hid (fun k (hk : (Value.slice qt i ct).ownBlock = some k) => HOWN.out.lt k hk)
          have y2 := HXY.out.c2
          have yf := HXY.out.fr
          have yl := HXY.out.lt
          have HSB := Lib.hid hsb
          have hgs : g < sb := by rw [hsb]; exact gl
          clear hY hsb BY g2 gl gf hc0 hc1 hc2 hc3 hel HOWN wam hmod fits hm0
          go_wp2_with (at_builtin; refine wp_append_flat rfl _ _ 27 39 rfl Try.underlying27 _ 40 Try.infoStep rfl (by omega) sCell_len sCell_one (g + 1) (.slice qt i ct) K rfl (HXY.out.own.later (by (repeat (first | exact ext_refl _ | assumption | (refine ext_alloc ?_ _) | (refine ext_drewN ?_ _) | refine ext_drew ?_ | (refine ext_set (by first | (simp; done) | (simp; omega)) _ ?_) | (refine ext_trans ?_ (by assumption)))))) _ 1 1 [⟨⟨xk, xn, xs⟩, am⟩] rfl rfl 0 _ (one_block (W := Y) sCell_len 39 #[.int .i64 xk, .int .i64 xn, .string xs, .int .i64 am] ⟨⟨xk, xn, xs⟩, am⟩ rfl _ rfl) ?ka ?kb ?kc ?_)
          case ka => (have e := HLEN.out; unfold maxLen; (try simp only [List.length_cons, List.length_nil]); omega)
          case kb => (have e := HLEN.out; (try simp only [List.length_cons, List.length_nil]); omega)
          case kc => first | omega | (simp; omega)
          intro vv wA OA bA oA
          obtain ⟨qa, ca, hvv, -, -, -⟩ := OwnSt.read OA
          rw [List.length_append, HLEN.out, List.length_singleton] at hvv
          subst hvv
          have bY : Below Y.heap.size Y (Y.alloc (.cells #[.int .i64 xk, .int .i64 xn, .string xs, .int .i64 am] 39)) := ext_alloc (ext_refl _) _
          have cA : ∀ k o, k < Y.heap.size → ¬ (Value.slice qt i ct).ownBlock = some k → wA.cell? ⟨k, o, none⟩ = Y.cell? ⟨k, o, none⟩ := fun k o h1 h2 => (World.cell?_of_block (oA.block k (Nat.lt_of_lt_of_le h1 bY.size) h2)).trans (bY.cell (p := ⟨k, o, none⟩) h1)
          have nsb : ¬ (Value.slice qt i ct).ownBlock = some sb := fun h => by have := (HOB.out _ h).2; have := HSB.out; omega
          have nb : ¬ (Value.slice qt i ct).ownBlock = some b := fun h => by have := (HOB.out _ h).1; omega
          have bYA := Lib.hid ((bY.mono (show g + 1 ≤ Y.heap.size by omega)).trans bA)
          have HZB := Lib.hid (HXY.out.put bYA.out OA)
          have t1 := (bYA.out.cell (p := ⟨g, 2, none⟩) (Nat.lt_succ_self _)).trans y2
          have t2 := (bYA.out.frozen (p := ⟨g, 2, none⟩) (Nat.lt_succ_self _)).trans yf
          have t3 := Nat.lt_of_lt_of_le yl bYA.out.size
          replace s0 := (cA sb _ sl nsb).trans s0
          replace s1 := (cA sb _ sl nsb).trans s1
          replace s2 := (cA sb _ sl nsb).trans s2
          replace s3 := (cA sb _ sl nsb).trans s3
          replace k0 := (cA b _ l0 nb).trans k0
          replace k1 := (cA b _ l0 nb).trans k1
          replace k2 := (cA b _ l0 nb).trans k2
          replace sl := Nat.lt_of_lt_of_le sl bYA.out.size
          replace l0 := Nat.lt_of_lt_of_le l0 bYA.out.size
          clear OA bA oA bY cA nsb nb y2 yf yl
          go_upto_region 13 with fail
          obtain ⟨Z, hZ⟩ : ∃ Z, Z = wA.setCell ⟨g, 2, none⟩ (.slice qa (i + 1) ca) := ⟨_, rfl⟩
          rw [← hZ] at HZB
          rw [← hZ]
          have cZ : ∀ k o, k < wA.heap.size → k ≠ g → Z.cell? ⟨k, o, none⟩ = wA.cell? ⟨k, o, none⟩ := fun k o h1 h2 => by rw [hZ]; exact World.cell?_of_block ((Out.set (S := fun k => k = g) _ _ rfl).block k h1 h2)
          have sZ : wA.heap.size ≤ Z.heap.size := by rw [hZ]; exact (Out.set (S := fun k => k = g) ⟨g, 2, none⟩ _ rfl).size
          replace s0 := (cZ sb _ sl (by omega)).trans s0
          replace s1 := (cZ sb _ sl (by omega)).trans s1
          replace s2 := (cZ sb _ sl (by omega)).trans s2
          replace s3 := (cZ sb _ sl (by omega)).trans s3
          replace k0 := (cZ b _ l0 (by omega)).trans k0
          replace k1 := (cZ b _ l0 (by omega)).trans k1
          replace k2 := (cZ b _ l0 (by omega)).trans k2
          replace sl := Nat.lt_of_lt_of_le sl sZ
          replace l0 := Nat.lt_of_lt_of_le l0 sZ
          clear cZ sZ hZ t1 t2 t3
          rcases c3w with rfl | rfl | rfl
          · go_wp2_with (go_at_call 24; refine (CM _).mono ?_; rintro e W2 ⟨rfl, hb⟩; have u3 := (hb.cell (p := ⟨sb, _, none⟩) sl).trans s3; have ul := Nat.lt_of_lt_of_le sl hb.size)
            go_roundw
            case rel => exact ⟨i + 1, za, zo, .slice qa (i + 1) ca, by go_num, rfl, rfl, hlt, hlt2, (DONE.out (za) (zo) (by simp) (by simp)).1, (DONE.out (za) (zo) (by simp) (by simp)).2, (by show HBox W1 _ g 0 0 _ _; rw [HM.out, ← HK.out]; exact HZB.out.later hb)⟩
            case measure => simp [intOf] <;> omega
          · go_wp2_with (go_at_call 24; refine (CM _).mono ?_; rintro e W2 ⟨rfl, hb⟩; have u3 := (hb.cell (p := ⟨sb, _, none⟩) sl).trans s3; have ul := Nat.lt_of_lt_of_le sl hb.size)
            go_roundw
            case rel => exact ⟨i + 1, za + am, zo, .slice qa (i + 1) ca, by go_num, rfl, rfl, hlt, hlt2, (DONE.out (za + am) (zo) (by simp) (by simp)).1, (DONE.out (za + am) (zo) (by simp) (by simp)).2, (by show HBox W1 _ g 0 0 _ _; rw [HM.out, ← HK.out]; exact HZB.out.later hb)⟩
            case measure => simp [intOf] <;> omega
          · go_wp2_with (go_at_call 24; refine (CM _).mono ?_; rintro e W2 ⟨rfl, hb⟩; have u3 := (hb.cell (p := ⟨sb, _, none⟩) sl).trans s3; have ul := Nat.lt_of_lt_of_le sl hb.size)
            go_roundw
            case rel => exact ⟨i + 1, za, zo + am, .slice qa (i + 1) ca, by go_num, rfl, rfl, hlt, hlt2, (DONE.out (za) (zo + am) (by simp) (by simp)).1, (DONE.out (za) (zo + am) (by simp) (by simp)).2, (by show HBox W1 _ g 0 0 _ _; rw [HM.out, ← HK.out]; exact HZB.out.later hb)⟩
            case measure => simp [intOf] <;> omega

        · have hmod := hpos (by omega)
          have hm0 : 0 ≤ sm := by omega
          clear hneg hpos
          go_upto_region 12 with fail
          obtain ⟨Y, hY⟩ : ∃ Y, Y = X.alloc (.cells #[.int .i64 xk, .int .i64 xn, .string xs, .int .i64 am] 39) := ⟨_, rfl⟩
          rw [← hY]
          obtain ⟨sb, hsb⟩ : ∃ sb, sb = X.heap.size := ⟨_, rfl⟩
          have BY : Below X.heap.size X Y := by rw [hY]; exact ext_alloc (ext_refl _) _
          have s0 : Y.cell? ⟨sb, 0, none⟩ = some (.int .i64 xk) := by rw [hY, hsb]; simp [go_sem]
          have s1 : Y.cell? ⟨sb, 1, none⟩ = some (.int .i64 xn) := by rw [hY, hsb]; simp [go_sem]
          have s2 : Y.cell? ⟨sb, 2, none⟩ = some (.string xs) := by rw [hY, hsb]; simp [go_sem]
          have s3 : Y.cell? ⟨sb, 3, none⟩ = some (.int .i64 am) := by rw [hY, hsb]; simp [go_sem]
          have sl : sb < Y.heap.size := by rw [hY, hsb]; simp
          rw [← hsb]
          have HXY := Lib.hid (HX.out.later BY)
          replace k0 := (BY.cell (p := ⟨b, _, none⟩) l0).trans k0
          replace k1 := (BY.cell (p := ⟨b, _, none⟩) l0).trans k1
          replace k2 := (BY.cell (p := ⟨b, _, none⟩) l0).trans k2
          replace l0 := Nat.lt_of_lt_of_le l0 BY.size
          have HOB := Lib.hid (fun k (hk : (Value.slice qt i ct).ownBlock = some k) => HOWN.out.lt k hk)
          have y2 := HXY.out.c2
          have yf := HXY.out.fr
          have yl := HXY.out.lt
          have HSB := Lib.hid hsb
          have hgs : g < sb := by rw [hsb]; exact gl
          clear hY hsb BY g2 gl gf hc0 hc1 hc2 hc3 hel HOWN wam hmod fits hm0
          go_wp2_with (at_builtin; refine wp_append_flat rfl _ _ 27 39 rfl Try.underlying27 _ 40 Try.infoStep rfl (by omega) sCell_len sCell_one (g + 1) (.slice qt i ct) K rfl (HXY.out.own.later (by (repeat (first | exact ext_refl _ | assumption | (refine ext_alloc ?_ _) | (refine ext_drewN ?_ _) | refine ext_drew ?_ | (refine ext_set (by first | (simp; done) | (simp; omega)) _ ?_) | (refine ext_trans ?_ (by assumption)))))) _ 1 1 [⟨⟨xk, xn, xs⟩, am⟩] rfl rfl 0 _ (one_block (W := Y) sCell_len 39 #[.int .i64 xk, .int .i64 xn, .string xs, .int .i64 am] ⟨⟨xk, xn, xs⟩, am⟩ rfl _ rfl) ?ka ?kb ?kc ?_)
          case ka => (have e := HLEN.out; unfold maxLen; (try simp only [List.length_cons, List.length_nil]); omega)
          case kb => (have e := HLEN.out; (try simp only [List.length_cons, List.length_nil]); omega)
          case kc => first | omega | (simp; omega)
          intro vv wA OA bA oA
          obtain ⟨qa, ca, hvv, -, -, -⟩ := OwnSt.read OA
          rw [List.length_append, HLEN.out, List.length_singleton] at hvv
          subst hvv
          have bY : Below Y.heap.size Y (Y.alloc (.cells #[.int .i64 xk, .int .i64 xn, .string xs, .int .i64 am] 39)) := ext_alloc (ext_refl _) _
          have cA : ∀ k o, k < Y.heap.size → ¬ (Value.slice qt i ct).ownBlock = some k → wA.cell? ⟨k, o, none⟩ = Y.cell? ⟨k, o, none⟩ := fun k o h1 h2 => (World.cell?_of_block (oA.block k (Nat.lt_of_lt_of_le h1 bY.size) h2)).trans (bY.cell (p := ⟨k, o, none⟩) h1)
          have nsb : ¬ (Value.slice qt i ct).ownBlock = some sb := fun h => by have := (HOB.out _ h).2; have := HSB.out; omega
          have nb : ¬ (Value.slice qt i ct).ownBlock = some b := fun h => by have := (HOB.out _ h).1; omega
          have bYA := Lib.hid ((bY.mono (show g + 1 ≤ Y.heap.size by omega)).trans bA)
          have HZB := Lib.hid (HXY.out.put bYA.out OA)
          have t1 := (bYA.out.cell (p := ⟨g, 2, none⟩) (Nat.lt_succ_self _)).trans y2
          have t2 := (bYA.out.frozen (p := ⟨g, 2, none⟩) (Nat.lt_succ_self _)).trans yf
          have t3 := Nat.lt_of_lt_of_le yl bYA.out.size
          replace s0 := (cA sb _ sl nsb).trans s0
          replace s1 := (cA sb _ sl nsb).trans s1
          replace s2 := (cA sb _ sl nsb).trans s2
          replace s3 := (cA sb _ sl nsb).trans s3
          replace k0 := (cA b _ l0 nb).trans k0
          replace k1 := (cA b _ l0 nb).trans k1
          replace k2 := (cA b _ l0 nb).trans k2
          replace sl := Nat.lt_of_lt_of_le sl bYA.out.size
          replace l0 := Nat.lt_of_lt_of_le l0 bYA.out.size
          clear OA bA oA bY cA nsb nb y2 yf yl
          go_upto_region 13 with fail
          obtain ⟨Z, hZ⟩ : ∃ Z, Z = wA.setCell ⟨g, 2, none⟩ (.slice qa (i + 1) ca) := ⟨_, rfl⟩
          rw [← hZ] at HZB
          rw [← hZ]
          have cZ : ∀ k o, k < wA.heap.size → k ≠ g → Z.cell? ⟨k, o, none⟩ = wA.cell? ⟨k, o, none⟩ := fun k o h1 h2 => by rw [hZ]; exact World.cell?_of_block ((Out.set (S := fun k => k = g) _ _ rfl).block k h1 h2)
          have sZ : wA.heap.size ≤ Z.heap.size := by rw [hZ]; exact (Out.set (S := fun k => k = g) ⟨g, 2, none⟩ _ rfl).size
          replace s0 := (cZ sb _ sl (by omega)).trans s0
          replace s1 := (cZ sb _ sl (by omega)).trans s1
          replace s2 := (cZ sb _ sl (by omega)).trans s2
          replace s3 := (cZ sb _ sl (by omega)).trans s3
          replace k0 := (cZ b _ l0 (by omega)).trans k0
          replace k1 := (cZ b _ l0 (by omega)).trans k1
          replace k2 := (cZ b _ l0 (by omega)).trans k2
          replace sl := Nat.lt_of_lt_of_le sl sZ
          replace l0 := Nat.lt_of_lt_of_le l0 sZ
          clear cZ sZ hZ t1 t2 t3
          rcases c3w with rfl | rfl | rfl
          · go_wp2_with (go_at_call 24; refine (CM _).mono ?_; rintro e W2 ⟨rfl, hb⟩; have u3 := (hb.cell (p := ⟨sb, _, none⟩) sl).trans s3; have ul := Nat.lt_of_lt_of_le sl hb.size)
            go_roundw
            case rel => exact ⟨i + 1, za, zo, .slice qa (i + 1) ca, by go_num, rfl, rfl, hlt, hlt2, (DONE.out (za) (zo) (by simp) (by simp)).1, (DONE.out (za) (zo) (by simp) (by simp)).2, (by show HBox W1 _ g 0 0 _ _; rw [HM.out, ← HK.out]; exact HZB.out.later hb)⟩
            case measure => simp [intOf] <;> omega
          · go_wp2_with (go_at_call 24; refine (CM _).mono ?_; rintro e W2 ⟨rfl, hb⟩; have u3 := (hb.cell (p := ⟨sb, _, none⟩) sl).trans s3; have ul := Nat.lt_of_lt_of_le sl hb.size)
            go_roundw
            case rel => exact ⟨i + 1, za + am, zo, .slice qa (i + 1) ca, by go_num, rfl, rfl, hlt, hlt2, (DONE.out (za + am) (zo) (by simp) (by simp)).1, (DONE.out (za + am) (zo) (by simp) (by simp)).2, (by show HBox W1 _ g 0 0 _ _; rw [HM.out, ← HK.out]; exact HZB.out.later hb)⟩
            case measure => simp [intOf] <;> omega
          · go_wp2_with (go_at_call 24; refine (CM _).mono ?_; rintro e W2 ⟨rfl, hb⟩; have u3 := (hb.cell (p := ⟨sb, _, none⟩) sl).trans s3; have ul := Nat.lt_of_lt_of_le sl hb.size)
            go_roundw
            case rel => exact ⟨i + 1, za, zo + am, .slice qa (i + 1) ca, by go_num, rfl, rfl, hlt, hlt2, (DONE.out (za) (zo + am) (by simp) (by simp)).1, (DONE.out (za) (zo + am) (by simp) (by simp)).2, (by show HBox W1 _ g 0 0 _ _; rw [HM.out, ← HK.out]; exact HZB.out.later hb)⟩
            case measure => simp [intOf] <;> omega

      · have hi20 : 20 ≤ i := by omega
        have hok := sums_ok ⟨vk, vn, vs⟩ (l.take i) (by rw [List.length_take]; omega)
        rw [← HK.out, ← HA.out, ← HO.out] at hok
        have CM := Lib.hid fun (W : World) (hb : Below X.heap.size X W) => HLEN.out ▸ many_any 0 0 qt K ct W (by rw [HLEN.out]; omega) (StepsA.later HST.out hb)
        have CF := Lib.hid fun (W : World) (hb : Below X.heap.size X W) => HLEN.out ▸ below_any 0 0 qt K ct ⟨vk, vn, vs⟩ false W (by rw [HLEN.out]; omega) (StepsA.later HST.out hb)
        have CT := Lib.hid fun (W : World) (hb : Below X.heap.size X W) => HLEN.out ▸ below_any 0 0 qt K ct ⟨vk, vn, vs⟩ true W (by rw [HLEN.out]; omega) (StepsA.later HST.out hb)
        have hm1 := many_le K
        have hb1 := below_le ⟨vk, vn, vs⟩ false K
        generalize manyL K = mm at *
        generalize belowL ⟨vk, vn, vs⟩ false K = bf at *
        generalize belowL ⟨vk, vn, vs⟩ true K = bt at *
        obtain ⟨e1, e2⟩ := hok
        subst e2
        have w1 : IntKind.i64.wrap (bf + za) = bf + za := by rw [IntKind.wrap_i64]; omega
        have w2 : IntKind.i64.wrap (bf + za + zo) = mm := by rw [IntKind.wrap_i64]; omega
        have g0 := HX.out.c0
        have g1 := HX.out.c1
        have HE1 := Lib.hid e1
        clear gf HX HA HO HK hgb e1
        go_upto_region 19 with (go_at_call 22; refine (CF.out _ (Below.refl _ _)).mono ?_; rintro e W2 ⟨rfl, hb⟩)
        replace g0 := (hb.cell (p := ⟨g, _, none⟩) gl).trans g0
        replace g1 := (hb.cell (p := ⟨g, _, none⟩) gl).trans g1
        replace g2 := (hb.cell (p := ⟨g, _, none⟩) gl).trans g2
        replace k0 := (hb.cell (p := ⟨b, _, none⟩) l0).trans k0
        replace k1 := (hb.cell (p := ⟨b, _, none⟩) l0).trans k1
        replace k2 := (hb.cell (p := ⟨b, _, none⟩) l0).trans k2
        replace gl := Nat.lt_of_lt_of_le gl hb.size
        replace l0 := Nat.lt_of_lt_of_le l0 hb.size
        have HBX := Lib.hid hb
        clear hb CF
        go_wp2_with (first
          | (go_at_call 20; refine (CM.out _ HBX.out).mono ?_; rintro e W3 ⟨rfl, hb⟩; have u0 := (hb.cell (p := ⟨g, _, none⟩) gl).trans g0; have u1 := (hb.cell (p := ⟨g, _, none⟩) gl).trans g1; have u2 := (hb.cell (p := ⟨g, _, none⟩) gl).trans g2; have u3 := (hb.cell (p := ⟨b, _, none⟩) l0).trans k0; have u4 := (hb.cell (p := ⟨b, _, none⟩) l0).trans k1; have u5 := (hb.cell (p := ⟨b, _, none⟩) l0).trans k2; have ul := Nat.lt_of_lt_of_le gl hb.size; have um := Nat.lt_of_lt_of_le l0 hb.size; have HB3 := Lib.hid (HBX.out.trans (hb.mono HBX.out.size)); clear hb)
          | (go_at_call 22; refine (CT.out _ HB3.out).mono ?_; rintro e W4 ⟨rfl, hb⟩; have HB4 := Lib.hid (BX.out.trans ((HB3.out.trans (hb.mono HB3.out.size)).mono BX.out.size)); clear hb))
        go_ret
        exact ⟨by simp, HB4.out⟩
    · have hni : n ≤ i := by omega
      have hok := sums_ok ⟨vk, vn, vs⟩ (l.take i) (by rw [List.length_take]; omega)
      rw [← HK.out, ← HA.out, ← HO.out] at hok
      have CM := Lib.hid fun (W : World) (hb : Below X.heap.size X W) => HLEN.out ▸ many_any 0 0 qt K ct W (by rw [HLEN.out]; omega) (StepsA.later HST.out hb)
      have CF := Lib.hid fun (W : World) (hb : Below X.heap.size X W) => HLEN.out ▸ below_any 0 0 qt K ct ⟨vk, vn, vs⟩ false W (by rw [HLEN.out]; omega) (StepsA.later HST.out hb)
      have CT := Lib.hid fun (W : World) (hb : Below X.heap.size X W) => HLEN.out ▸ below_any 0 0 qt K ct ⟨vk, vn, vs⟩ true W (by rw [HLEN.out]; omega) (StepsA.later HST.out hb)
      have hm1 := many_le K
      have hb1 := below_le ⟨vk, vn, vs⟩ false K
      generalize manyL K = mm at *
      generalize belowL ⟨vk, vn, vs⟩ false K = bf at *
      generalize belowL ⟨vk, vn, vs⟩ true K = bt at *
      obtain ⟨e1, e2⟩ := hok
      subst e2
      have w1 : IntKind.i64.wrap (bf + za) = bf + za := by rw [IntKind.wrap_i64]; omega
      have w2 : IntKind.i64.wrap (bf + za + zo) = mm := by rw [IntKind.wrap_i64]; omega
      have g0 := HX.out.c0
      have g1 := HX.out.c1
      have HE1 := Lib.hid e1
      clear gf HX HA HO HK hgb e1
      go_upto_region 19 with (go_at_call 22; refine (CF.out _ (Below.refl _ _)).mono ?_; rintro e W2 ⟨rfl, hb⟩)
      replace g0 := (hb.cell (p := ⟨g, _, none⟩) gl).trans g0
      replace g1 := (hb.cell (p := ⟨g, _, none⟩) gl).trans g1
      replace g2 := (hb.cell (p := ⟨g, _, none⟩) gl).trans g2
      replace k0 := (hb.cell (p := ⟨b, _, none⟩) l0).trans k0
      replace k1 := (hb.cell (p := ⟨b, _, none⟩) l0).trans k1
      replace k2 := (hb.cell (p := ⟨b, _, none⟩) l0).trans k2
      replace gl := Nat.lt_of_lt_of_le gl hb.size
      replace l0 := Nat.lt_of_lt_of_le l0 hb.size
      have HBX := Lib.hid hb
      clear hb CF
      go_wp2_with (first
        | (go_at_call 20; refine (CM.out _ HBX.out).mono ?_; rintro e W3 ⟨rfl, hb⟩; have u0 := (hb.cell (p := ⟨g, _, none⟩) gl).trans g0; have u1 := (hb.cell (p := ⟨g, _, none⟩) gl).trans g1; have u2 := (hb.cell (p := ⟨g, _, none⟩) gl).trans g2; have u3 := (hb.cell (p := ⟨b, _, none⟩) l0).trans k0; have u4 := (hb.cell (p := ⟨b, _, none⟩) l0).trans k1; have u5 := (hb.cell (p := ⟨b, _, none⟩) l0).trans k2; have ul := Nat.lt_of_lt_of_le gl hb.size; have um := Nat.lt_of_lt_of_le l0 hb.size; have HB3 := Lib.hid (HBX.out.trans (hb.mono HBX.out.size)); clear hb)
        | (go_at_call 22; refine (CT.out _ HB3.out).mono ?_; rintro e W4 ⟨rfl, hb⟩; have HB4 := Lib.hid (BX.out.trans ((HB3.out.trans (hb.mono HB3.out.size)).mono BX.out.size)); clear hb))
      go_ret
      exact ⟨by simp, HB4.out⟩

/- FRAME -/

set_option maxRecDepth 100000 in
theorem histSums_lifted (os : Os) (started : os.Started) (H : Type) (enc : TypeId × Value → H) :
    ReturnsInHanded {} Try.checked os 8 .any (Rows.histSumsSpec.pre6 enc Try.prog Try.f8 Rows.histSumsRow.domain false) (Rows.histSumsSpec.post enc Try.prog Try.f8 false true false false) := by
  refine returnsInHanded_of_change_sized (C := Try.checked) Try.own started (by kernel_rfl) Try.func8
    (ChangeSpec.witness6 (enc := enc) (C := Try.checked) false ⟨#[], #[.slice none 0 0, .agg #[.int .i64 0, .int .i64 0, .string ⟨#[]⟩]], []⟩ 8 (by kernel_rfl) (by kernel_rfl) (by kernel_rfl) (by kernel_rfl)) ?_
  intro W base args ds gs before hval0 hW _ hsz _
  have hval : ∀ (j : Nat) t v, Try.f8.params[j]? = some t → args[j]? = some v → Value.okWide Try.prog W .any base t v := hval0
  have hW' := hW
  obtain ⟨p, q, hA0, hV, rfl, _, _⟩ := hW
  have hA : DataW.TrodAll enc Try.prog W 0 (fun _ => true) true Try.f8.params.toList args.toList ds p := hA0
  rw [Try.params8] at hA hval hsz
  obtain ⟨v0, v1, d0, d1, p0, p1, rfl, rfl, rfl, h0, h1⟩ := trodAll_two hA
  obtain ⟨x1, rfl, fx1⟩ := open_val (hval 1 31 v1 rfl rfl) h1
  obtain ⟨q0, L0, c0, rfl, le0, m0, r0, tx0, fx0⟩ := open_steps (hval 0 27 v0 rfl rfl) h0 (fun n hn => of_decide_eq_true (List.all_eq_true.1 hsz _ (DataW.weights_mem_each (j := 0) (t := 27) rfl rfl n hn)))
  clear hA0 hval0
  refine (sums_walk q0 L0 c0 x1 W fx0 tx0).mono fun e W' ⟨he, hb⟩ => ⟨_, he, post_law rfl hW' rfl rfl ?_ hb⟩
  intro t ht
  rw [Try.params8] at ht
  simp only [List.mem_cons, List.not_mem_nil, or_false] at ht
  rcases ht with rfl | rfl <;> exact ⟨by kernel_rfl, of_decide_eq_true (by kernel_rfl)⟩

theorem histSums_holds : Rows.HistSumsSaid :=
  OpenClaim.holds_of_wide 8 Try.f8 rfl rfl rfl rfl rfl rfl rfl ⟨rfl, rfl, rfl, rfl, rfl⟩ rfl rfl rfl rfl rfl (by kernel_rfl) Try.func8 (by kernel_rfl)
    (of_decide_eq_true (by kernel_rfl)) (by unfold Func.isWrapper; rw [if_neg (of_decide_eq_false (by kernel_rfl))]; exact ⟨rfl, rfl⟩)
    (fun os started H enc _ => histSums_lifted os started H enc)

#print axioms histSums_holds

end Go.Proofs.Ytkgdbpfpjpiejaa
