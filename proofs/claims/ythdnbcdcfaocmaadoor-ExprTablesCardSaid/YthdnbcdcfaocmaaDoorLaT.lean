/- ExprTables: the walk. -/
import Derived.Test.YthdnbcdcfaocmaaDoorEgB
import Derived.Test.YthdnbcdcfaocmaaDoorEvQ
import Derived.Test.YthdnbcdcfaocmaaDoorFlat2
namespace Go.Proofs.YthdnbcdcfaocmaaDoor
open Go.RowKit Go.Deep
set_option maxRecDepth 100000

/-- What operands refer to, each asked alone. -/
def orT : List Ex → Nat
  | [] => 0
  | x :: r => tablesE x ||| orT r
theorem orT_append : ∀ (a b : List Ex), orT (a ++ b) = orT a ||| orT b
  | [], b => by simp [orT]
  | x :: a, b => by rw [List.cons_append, orT, orT, orT_append a b, Nat.or_assoc]
theorem orT_step {l : List Ex} {i : Nat} {x : Ex} (h : l[i]? = some x) : orT (l.take (i + 1)) = orT (l.take i) ||| tablesE x := by rw [take_snoc h, orT_append]; simp [orT]
theorem tablesE_lt (x : Ex) : tablesE x < 65536 := by
  unfold tablesE
  cases h : rightE x with
  | false => simp
  | true => exact tabs_lt x (rightE_parts h).1
theorem orT_lt : ∀ (l : List Ex), orT l < 65536
  | [] => by rw [orT]; omega
  | x :: r => by rw [orT]; exact Nat.or_lt_two_pow (n := 16) (tablesE_lt x) (orT_lt r)
theorem orT_right : ∀ (l : List Ex), (∀ x ∈ l, rightE x = true) → orT l = tabsL l
  | [], _ => by rw [orT, tabsL]
  | x :: r, h => by
    rw [orT, tabsL, orT_right r fun y hy => h y (List.mem_cons_of_mem _ hy)]
    unfold tablesE
    rw [h x List.mem_cons_self]
    rfl
theorem tables_parts {op : Int} {v : Val} {rel col n : Int} {s : ByteArray} {l : List Ex} (h : rightE (.mk op v rel col n s l) = true) (h0 : 0 < l.length) : tablesE (.mk op v rel col n s l) = orT l := by
  rw [orT_right l fun y hy => right_mem h hy]
  unfold tablesE
  rw [h]
  have ho := (rightE_parts h).1
  rw [Ex.okAll, Bool.and_eq_true] at ho
  exact tabs_other (v := v) (rel := rel) (col := col) (n := n) (s := s) (op_two ho.1 h0)
theorem eval_other {cols : List (List Val)} {ps : List Val} (j : Nat) (o : List Val) {x : Ex} (h : (tablesE x).testBit j = false) : evalR (cols.set j o) ps x = evalR cols ps x := by
  cases hr : rightE x with
  | false => unfold evalR; rw [hr]; rfl
  | true =>
    refine evalR_set j o ?_
    unfold tablesE at h
    rw [hr] at h
    exact h

theorem bits_and_one {a : Nat} (ha : a < 65536) : bits .and .i64 (a : Int) 1 = ((a &&& 1 : Nat) : Int) := by
  have h : a &&& 1 ≤ 1 := Nat.and_le_right
  change IntKind.wrap .i64 ((BitVec.ofInt 64 (a : Int) &&& BitVec.ofInt 64 ((1 : Nat) : Int)).toNat : Int) = _
  rw [BitVec.ofInt_natCast, BitVec.ofInt_natCast, BitVec.toNat_and, BitVec.toNat_ofNat, BitVec.toNat_ofNat, Nat.mod_eq_of_lt (by omega), Nat.mod_eq_of_lt (by omega)]
  rw [IntKind.wrap_i64]
  try unfold wrap64
  omega
theorem shr_bit {s j : Nat} (hs : s < 65536) : (bits .and .i64 ((s : Int) / 2 ^ j) 1 == 1) = s.testBit j := by
  have e : (s : Int) / 2 ^ j = ((s / 2 ^ j : Nat) : Int) := by simp
  rw [e, bits_and_one (Nat.lt_of_le_of_lt (Nat.div_le_self _ _) hs), Nat.testBit, Nat.and_comm 1, Nat.shiftRight_eq_div_pow]
  have h : s / 2 ^ j &&& 1 = 0 ∨ s / 2 ^ j &&& 1 = 1 := by have h : s / 2 ^ j &&& 1 ≤ 1 := Nat.and_le_right; omega
  rcases h with h | h <;> rw [h] <;> rfl
theorem Tryd.infoRow8 : (Tryd.prog.info? 46).map (fun i => (i.zero, i.size, i.bytes)) = some (some (.slice none 0 0), 1, 24) := by kernel_rfl
theorem tmod_pos {z n : Int} (h : 0 ≤ z) (hn : 0 < n) : ∃ i : Nat, z.tmod n = (i : Int) ∧ (i : Int) < n := by
  have h1 := Int.emod_nonneg z (show n ≠ 0 by omega)
  refine ⟨(z % n).toNat, ?_, ?_⟩
  · rw [Int.tmod_eq_emod_of_nonneg h, Int.toNat_of_nonneg h1]
  · rw [Int.toNat_of_nonneg h1]
    exact Int.emod_lt_of_pos z hn

/-- Rows, each as it is held. -/
theorem rows_raw {w : World} {q : Option Addr} {cols : List (List Val)} (h : RowsA w 0 w.heap.size q cols) : ∃ K : List Raw, K.length = cols.length ∧ ArrA 0 w.heap.size q 1 K (fun g o r => ∀ (k : Nat) u, (rawCell r)[k]? = some u → w.cell? ⟨g, o + k, none⟩ = some u) ∧
    ∀ (i : Nat) (r : Raw) (l : List Val), K[i]? = some r → cols[i]? = some l → r.2.1 = l.length ∧ l.length ≤ r.2.2 ∧ r.2.2 ≤ 9223372036854775807 ∧ ValsA w 0 w.heap.size r.1 l := by
  have each : ∀ i, i < cols.length → ∃ r : Raw, ∀ l, cols[i]? = some l → (∀ g off, q = some ⟨g, off, none⟩ → w.cell? ⟨g, off + i * 1, none⟩ = some (.slice r.1 r.2.1 r.2.2)) ∧ r.2.1 = l.length ∧ l.length ≤ r.2.2 ∧ r.2.2 ≤ 9223372036854775807 ∧ ValsA w 0 w.heap.size r.1 l := by
    intro i hi
    obtain ⟨g, off, hq, _, _, p, c, h1, h2, h3, h4⟩ := ArrA.at_ h hi
    refine ⟨(p, cols[i].length, c), fun l hl => ?_⟩
    rw [List.getElem?_eq_getElem hi] at hl
    cases hl
    refine ⟨fun g' off' hq' => ?_, rfl, h2, h3, h4⟩
    rw [hq] at hq'
    cases hq'
    exact h1
  obtain ⟨f, hf⟩ := choose_lt each
  refine ⟨(List.range cols.length).map f, by simp, fun i hi => ?_, fun i r l hr hl => ?_⟩
  · have hi' : i < cols.length := by simpa using hi
    obtain ⟨g, off, hq, h1, h2, _⟩ := ArrA.at_ h hi'
    refine ⟨g, off, hq, h1, h2, fun j r hr k u hu => ?_⟩
    have hj : j < cols.length := by have := (List.getElem?_eq_some_iff.1 hr).1; simpa using this
    have hr' : f j = r := by simpa [hj] using hr
    have hk : k = 0 := by have := (List.getElem?_eq_some_iff.1 hu).1; simp at this; omega
    subst hk
    have h5 := (hf j hj _ (List.getElem?_eq_getElem hj)).1 g off hq
    rw [hr'] at h5
    simp at hu
    rw [← hu]
    exact h5
  · have hi := (List.getElem?_eq_some_iff.1 hl).1
    have hr' : f i = r := by simpa [hi] using hr
    rw [← hr']
    exact (hf i hi l hl).2
theorem raw_rows {w : World} {base : Nat} {T : TypeId} {q : Option Addr} {n c : Nat} {K : List Raw} {cols : List (List Val)} (h : OwnF w base T 1 rawCell (.slice q n c) K) (hl : K.length = cols.length) (hK : ∀ (i : Nat) (r : Raw) (l : List Val), K[i]? = some r → cols[i]? = some l → r.2.1 = l.length ∧ l.length ≤ r.2.2 ∧ r.2.2 ≤ 9223372036854775807 ∧ ValsA w 0 w.heap.size r.1 l) :
    n = cols.length ∧ cols.length ≤ c ∧ c ≤ 9223372036854775807 ∧ RowsA w 0 w.heap.size q cols := by
  obtain ⟨q', c', e, h1, h2, h3, h4⟩ := h.arr rawCell_len
  simp only [Value.slice.injEq] at e
  obtain ⟨rfl, rfl, rfl⟩ := e
  refine ⟨hl, by omega, h2, fun i hi => ?_⟩
  obtain ⟨g, off, hq, h5, h6, h7⟩ := h4 i (by omega)
  refine ⟨g, off, hq, Nat.zero_le _, h6, fun j x hx => ?_⟩
  have hj := (List.getElem?_eq_some_iff.1 hx).1
  have hjr : K[j]? = some (K[j]'(by omega)) := List.getElem?_eq_getElem (by omega)
  obtain ⟨e1, e2, e3, e4⟩ := hK j _ x hjr hx
  have h8 := h7 j _ hjr 0 _ rfl
  rw [e1] at h8
  exact ⟨_, _, h8, e2, e3, e4⟩

set_option maxHeartbeats 16000000 in
theorem exprTables_walk (x : Ex) (cs : List Value) (w : World) (cv pv : Value) (cols : List (List Val)) (ps : List Val) (z : Int) (oq : Option Addr) (oc : Nat) (o : List Val) (hx : ExM w x cs) (hM : VM w cv pv cols ps) (hRV : RV cols ps) (hz : inR z = true) (ho1 : o.length ≤ oc) (ho2 : oc ≤ 9223372036854775807) (ho3 : ValsA w 0 w.heap.size oq o) (ho4 : ∀ v ∈ o, inR v.n = true) (hlm : x.l.length ≤ 9223372036854775807) (hG : GE w) :
    Calls Tryd.prog 9 #[.agg cs.toArray, cv, pv, .int .i64 z, .slice oq o.length oc] w fun e w' => e = .returned (.bool true) ∧ Below w.heap.size w w' := by
  have HX := Lib.hid hx
  have HM := Lib.hid hM
  have HG := Lib.hid hG
  have HRV := Lib.hid hRV
  have HO := Lib.hid (And.intro ho1 (And.intro ho2 (And.intro ho3 ho4)))
  have HZ := Lib.hid hz
  clear ho1 ho2 ho3 ho4 hz hRV
  obtain ⟨op, v, rel, col, n, s, l⟩ := x
  rw [ExM.iff] at hx
  obtain ⟨-, q, c, rfl, -, hl⟩ := hx
  have HL := Lib.hid hl
  clear hl
  obtain ⟨⟨cq, cc, rfl, hcc, hcm, -⟩, pq, pc, rfl, hpc, hpm, -⟩ := hM
  obtain ⟨len, hlen⟩ : ∃ len, len = l.length := ⟨_, rfl⟩
  obtain ⟨olen, holen⟩ : ∃ len, len = o.length := ⟨_, rfl⟩
  have hlm : l.length ≤ 9223372036854775807 := hlm
  rw [← hlen] at HX hlm ⊢
  rw [← holen] at HO ⊢
  have HLEN := Lib.hid hlen
  have HOLEN := Lib.hid holen
  clear hlen holen hG
  have E0 := EB.new w op v rel col n s q len c 26
  have B0 : Below w.heap.size w (w.alloc (.cells (exCells op v rel col n s q len c).toArray 26)) := ext_alloc (ext_refl _) _
  obtain ⟨W, hW⟩ : ∃ W, W = w.alloc (.cells (exCells op v rel col n s q len c).toArray 26) := ⟨_, rfl⟩
  rw [← hW] at E0 B0
  go_enter Tryd.func9, Tryd.ntmps9
  go_upto_region 1 with fail
  rw [← hW]
  clear hW
  obtain ⟨g, hg⟩ : ∃ g, g = w.heap.size := ⟨_, rfl⟩
  have HB := Lib.hid B0
  have HGW := Lib.hid hg
  rw [← hg] at E0
  rw [← hg]
  clear B0 hg
  have HE := Lib.hid E0
  obtain ⟨lt, c0, c1, c2, c3, c4, c5, c6, c7, c8⟩ := E0
  go_wp2_with fail
  refine (examples_any W (HG.out.on HB.out)).mono ?_
  rintro e W2 ⟨rfl, hb⟩
  have HB2 := Lib.hid (HB.out.trans (hb.mono HB.out.size))
  have E2 := HE.out.on hb
  have HE2 := Lib.hid E2
  clear hb lt c0 c1 c2 c3 c4 c5 c6 c7 c8 HB HE
  obtain ⟨lt, c0, c1, c2, c3, c4, c5, c6, c7, c8⟩ := E2
  go_wp2_with fail
  go_loopw [12, 13] (fun vt vi wr => ∃ i T : Nat, vi = .int .i64 i ∧ i ≤ len ∧ vt = .int .i64 T ∧ Hid (T = orT (l.take i)) ∧ Hid (EB wr g op v rel col n s q len c ∧ Below w.heap.size w wr)) (fun _ vi _ => len - (intOf vi).toNat)
  case atStart => exact ⟨0, 0, rfl, by omega, rfl, (by show (0 : Nat) = orT (l.take 0); rw [List.take_zero, orT]), HE2.out, HB2.out⟩
  case round =>
    obtain ⟨i, T, rfl, hi, rfl, hT, hE⟩ := hrel
    obtain ⟨V, hV⟩ : ∃ V, V = wr := ⟨_, rfl⟩
    rw [← hV] at hE
    rw [← hV]
    have HT := Lib.hid hT
    have HEV := Lib.hid hE.1
    have HBV := Lib.hid hE.2
    clear hV hT hE lt c0 c1 c2 c3 c4 c5 c6 c7 c8 HE2 HB2
    obtain ⟨lt, c0, c1, c2, c3, c4, c5, c6, c7, c8⟩ := HEV.out
    by_cases hlt : i < len
    · obtain ⟨y, hy⟩ : ∃ y, l[i]? = some y := ⟨_, List.getElem?_eq_getElem (by rw [← HLEN.out]; exact hlt)⟩
      have hl_ := ExL.at_ (ExL.ext HBV.out _ _ _ HL.out) hy
      obtain ⟨g0, off0, cs0, hq0, hg0, hx0, hcell⟩ := hl_
      subst hq0
      have HX0 := Lib.hid hx0
      have hbo := bits_or_nat (a := T) (b := tablesE y) (by rw [HT.out]; exact orT_lt _) (tablesE_lt y)
      have HT2 := Lib.hid (show T ||| tablesE y = orT (l.take (i + 1)) by rw [orT_step hy, HT.out])
      clear hy
      obtain ⟨op1, v1, rel1, col1, n1, s1, l1⟩ := y
      rw [ExM.iff] at hx0
      obtain ⟨-, qq0, cc0, rfl, -, -⟩ := hx0
      have f0 := hcell 0 _ rfl
      have f1 := hcell 1 _ rfl
      have f2 := hcell 2 _ rfl
      have f3 := hcell 3 _ rfl
      have f4 := hcell 4 _ rfl
      have f5 := hcell 5 _ rfl
      have f6 := hcell 6 _ rfl
      have f7 := hcell 7 _ rfl
      have f8 := hcell 8 _ rfl
      simp only [Nat.zero_add, Nat.add_zero] at f0 f1 f2 f3 f4 f5 f6 f7 f8
      clear hcell
      go_wp2_with fail
      refine (dtables_any _ _ V HX0.out (HG.out.on HBV.out)).mono ?_
      rintro e Y ⟨rfl, hb⟩
      have HBY := Lib.hid (HBV.out.trans (hb.mono HBV.out.size))
      have HEY := Lib.hid (HEV.out.on hb)
      clear hb lt c0 c1 c2 c3 c4 c5 c6 c7 c8 f0 f1 f2 f3 f4 f5 f6 f7 f8
      obtain ⟨u, hu⟩ : ∃ u, u = tablesE (Ex.mk op1 v1 rel1 col1 n1 s1 l1) := ⟨_, rfl⟩
      rw [← hu] at hbo HT2 ⊢
      clear hu
      go_wp2_with fail
      go_roundw
      case rel => exact ⟨i + 1, T ||| u, by go_num, hlt, rfl, HT2.out, HEY.out, HBY.out⟩
      case measure => simp [intOf] <;> omega
    · obtain ⟨S, hS⟩ : ∃ S, S = tablesE (.mk op v rel col n s l) := ⟨_, rfl⟩
      have HT2 := Lib.hid (show T = orT l by rw [HT.out, show i = l.length by rw [← HLEN.out]; omega, List.take_length])
      have HS := Lib.hid hS
      go_wp2_with fail
      refine (dtables_any _ _ V (ExM.ext HBV.out _ _ HX.out) (HG.out.on HBV.out)).mono ?_
      rintro e Y ⟨rfl, hb⟩
      rw [← hS]
      have HBY := Lib.hid (HBV.out.trans (hb.mono HBV.out.size))
      have HEY := Lib.hid (HEV.out.on hb)
      clear hb hS lt c0 c1 c2 c3 c4 c5 c6 c7 c8 HEV HBV
      go_upto_region 8 with fail
      go_cut [50] (fun v50 wc => v50 = .bool false ∧ Hid (EB wc g op v rel col n s q len c ∧ Below w.heap.size w wc))
      case first =>
        obtain ⟨lt, c0, c1, c2, c3, c4, c5, c6, c7, c8⟩ := HEY.out
        go_wp2_with fail
        refine (dright_any _ _ Y (ExM.ext HBY.out _ _ HX.out) (HG.out.on HBY.out)).mono ?_
        rintro e X ⟨he, hbX⟩
        have HBX := Lib.hid (HBY.out.trans (hbX.mono HBY.out.size))
        have HEX := Lib.hid (HEY.out.on hbX)
        clear hbX lt c0 c1 c2 c3 c4 c5 c6 c7 c8
        obtain ⟨lt, c0, c1, c2, c3, c4, c5, c6, c7, c8⟩ := HEX.out
        cases hr : rightE (.mk op v rel col n s l) with
        | false =>
          rw [hr] at he
          clear hr
          subst he
          go_wp2_with fail
          go_meet
          exact ⟨rfl, HEX.out, HBX.out⟩
        | true =>
          have HR := Lib.hid hr
          rw [hr] at he
          clear hr
          subst he
          by_cases h0 : 0 < len
          · have hst : S = T := by rw [HS.out, HT2.out]; exact tables_parts HR.out (by rw [← HLEN.out]; exact h0)
            subst hst
            go_wp2_with fail
            go_meet
            exact ⟨rfl, HEX.out, HBX.out⟩
          · go_wp2_with fail
            go_meet
            exact ⟨rfl, HEX.out, HBX.out⟩
      case rest =>
        obtain ⟨Y2, hY2⟩ : ∃ Y, Y = wc := ⟨_, rfl⟩
        obtain ⟨rfl, hcut⟩ := hcut
        rw [← hY2] at hcut
        rw [← hY2]
        have HE2 := Lib.hid hcut.out.1
        have HB2 := Lib.hid hcut.out.2
        clear hcut hY2
        go_upto_if 52 with fail
        go_cut [3] (fun vz wc => ∃ k : Nat, vz = .int .i64 (k : Int) ∧ k ≤ 9223372036854775807 ∧ Y2 = wc)
        case first =>
          have hz := (inR_iff.1 HZ.out)
          by_cases hz0 : z < 0
          · go_wp2_with fail
            go_meet
            exact ⟨(-(z + 1)).toNat, by rw [Int.toNat_of_nonneg (by omega)], by omega, rfl⟩
          · go_wp2_with fail
            go_meet
            exact ⟨z.toNat, by rw [Int.toNat_of_nonneg (by omega)], by omega, rfl⟩
        case rest =>
          obtain ⟨k, rfl, hk, rfl⟩ := hcut
          obtain ⟨lt, c0, c1, c2, c3, c4, c5, c6, c7, c8⟩ := HE2.out
          by_cases hn0 : cols.length = 0
          · have b0 : ((cols.length : Int) == 0) = true := by rw [beq_iff_eq]; omega
            go_wp2_with fail
            refine bodyPost_ret (v := .bool true) (by simp [results, Tryd.results9, go_sem]) rfl ⟨rfl, HB2.out⟩
          have b0 : ((cols.length : Int) == 0) = false := by rw [beq_eq_false_iff_ne]; omega
          by_cases hn6 : 6 < cols.length
          · go_wp2_with fail
            refine bodyPost_ret (v := .bool true) (by simp [results, Tryd.results9, go_sem]) rfl ⟨rfl, HB2.out⟩
          obtain ⟨j, hj, hjl⟩ := tmod_pos (z := (k : Int)) (n := (cols.length : Int)) (by omega) (by omega)
          have hj2 : (k : Int) % (cols.length : Int) = (j : Int) := by rw [← Int.tmod_eq_emod_of_nonneg (by omega)]; exact hj
          go_upto_region 15 with fail
          clear hj hj2 b0 hk
          have hbit := shr_bit (s := S) (j := j) (by rw [HS.out]; exact tablesE_lt _)
          cases hsb : S.testBit j with
          | true =>
            rw [hsb] at hbit
            clear hsb
            go_wp2_with fail
            refine bodyPost_ret (v := .bool true) (by simp [results, Tryd.results9, go_sem]) rfl ⟨rfl, HB2.out⟩
          | false =>
            have HEV2 := Lib.hid (eval_other (cols := cols) (ps := ps) j o (x := .mk op v rel col n s l) (by rw [← HS.out]; exact hsb))
            rw [hsb] at hbit
            clear hsb
            have hM2 := HM.out.on HB2.out
            have HM2 := Lib.hid hM2
            obtain ⟨⟨_, _, hsl, _, _, hP⟩, -⟩ := hM2
            obtain ⟨rfl, -, rfl⟩ : cq = _ ∧ True ∧ cc = _ := by injection hsl with h1 _ h3; exact ⟨h1, trivial, h3⟩
            clear hsl
            obtain ⟨K, hK1, hK2, hK3⟩ := rows_raw hP
            have HK1 := Lib.hid hK1
            have HK2 := Lib.hid hK2
            have HK3 := Lib.hid hK3
            clear hP hK1 hK2 hK3
            go_wp2_with (at_builtin; refine wp_append_flat rfl _ _ 45 46 rfl Tryd.underlying45 (.slice none 0 0) 24 Tryd.infoRow8 rfl (by decide) rawCell_len rawCell_one Y2.heap.size _ [] rfl (OwnF.nil _ _ _) cq cols.length cc K HK1.out.symm rfl 0 _ HK2.out ?ka ?kb ?kc ?_)
            case ka => rw [HK1.out]; unfold maxLen; simp; omega
            case kb => rw [HK1.out]; simp; omega
            case kc => exact Nat.le_refl _
            intro vv N HOa hba hoa
            obtain ⟨qT, cT, rfl, hcT, hmT, -, -⟩ := OwnF.arr rawCell_len HOa
            obtain ⟨gT, rfl, -, hgT, hgN⟩ := OwnF.at_ HOa (by rw [HK1.out]; omega)
            have hjK : j < K.length := by rw [HK1.out]; omega
            obtain ⟨rj, hrj⟩ : ∃ rj, K[j]? = some rj := ⟨_, List.getElem?_eq_getElem hjK⟩
            obtain ⟨cj, fj⟩ := OwnF.cellAt rawCell_len HOa hrj (k := 0) rfl
            have HOs := OwnF.setc rawCell_len HOa hrj (k := 0) (x' := (oq, olen, oc)) (u := .slice oq olen oc) (by decide) rfl
            rw [Nat.mul_one, Nat.add_zero] at cj HOs
            have HBs := hba.setCell (p := ⟨gT, j, none⟩) hgT (.slice oq olen oc)
            have hKn := HK1.out
            rw [hKn] at HOa HOs ⊢
            have HOs := Lib.hid HOs
            have HBs := Lib.hid HBs
            have HKn := Lib.hid hKn
            clear HOa hba hoa hKn hrj hcT hmT hjK lt c0 c1 c2 c3 c4 c5 c6 c7 c8 hbit
            go_upto_region 19 with fail
            obtain ⟨M, hMM⟩ : ∃ M, M = N.setCell ⟨gT, j, none⟩ (.slice oq olen oc) := ⟨_, rfl⟩
            rw [← hMM] at HOs HBs
            rw [← hMM]
            clear hMM cj fj hgN
            have HBM := Lib.hid (HB2.out.trans (HBs.out.mono HB2.out.size))
            have HEM := Lib.hid (HE2.out.on HBs.out)
            have hVMt : VM M (.slice (some ⟨gT, 0, none⟩) cols.length cT) (.slice pq ps.length pc) (cols.set j o) ps := by
              obtain ⟨e1, e2, e3, e4⟩ := raw_rows (cols := cols.set j o) HOs.out (by rw [List.length_set, List.length_set]; exact HKn.out) (fun i r l hr hl => by
                by_cases hij : j = i
                · subst hij
                  rw [List.getElem?_set_self (by rw [HKn.out]; omega)] at hr
                  rw [List.getElem?_set_self (by omega)] at hl
                  cases hr
                  cases hl
                  obtain ⟨a1, a2, a3, -⟩ := HO.out
                  exact ⟨HOLEN.out, by rw [← HOLEN.out]; exact a1, a2, ArrA.wide (ValsA.same a3 (Same.of HBM.out (Nat.le_refl _))) (Nat.le_refl _) HBM.out.size⟩
                · rw [List.getElem?_set_ne hij] at hr hl
                  obtain ⟨a1, a2, a3, a4⟩ := HK3.out i r l hr hl
                  exact ⟨a1, a2, a3, ArrA.wide (ValsA.same a4 (Same.of HBs.out (Nat.le_refl _))) (Nat.le_refl _) HBs.out.size⟩)
              rw [List.length_set] at e1 e2
              refine ⟨⟨_, _, ?_, by rw [List.length_set]; exact e2, e3, e4⟩, (HM2.out.on HBs.out).2⟩
              rw [List.length_set]
            have HVM := Lib.hid hVMt
            have HVR := Lib.hid (show RV (cols.set j o) ps from ⟨fun l hl => (List.mem_or_eq_of_mem_set hl).elim (HRV.out.1 l) (fun e => by rw [e]; exact HO.out.2.2.2), HRV.out.2⟩)
            have HM3 := Lib.hid (HM2.out.on HBs.out)
            clear hVMt HK2 HK3 HOs HBs HE2 HB2 HM2
            obtain ⟨lt, c0, c1, c2, c3, c4, c5, c6, c7, c8⟩ := HEM.out
            go_wp2_with fail
            refine (deval_any _ _ M _ _ cols ps (ExM.ext HBM.out _ _ HX.out) HM3.out HRV.out (HG.out.on HBM.out)).mono ?_
            rintro e X ⟨he, hbX⟩
            obtain ⟨z2, hz2⟩ : ∃ z, z = evalR cols ps (.mk op v rel col n s l) := ⟨_, rfl⟩
            rw [← hz2] at he HEV2
            clear hz2
            obtain ⟨⟨rk, rn, rs⟩, re⟩ := z2
            simp only at he
            subst he
            have TX := TV.new_ X rk rn rs
            obtain ⟨X2, hX2⟩ : ∃ X2, X2 = X.alloc (.cells #[.int .i64 rk, .int .i64 rn, .string rs] 23) := ⟨_, rfl⟩
            rw [← hX2] at TX
            have hbX2 : Below M.heap.size M X2 := by rw [hX2]; exact ext_alloc hbX _
            have HBX := Lib.hid (HBM.out.trans (hbX2.mono HBM.out.size))
            have HEX := Lib.hid (HEM.out.on hbX2)
            have HVMX := Lib.hid (HVM.out.on hbX2)
            have HTX := Lib.hid TX
            obtain ⟨gX, hgX⟩ : ∃ g, g = X.heap.size := ⟨_, rfl⟩
            rw [← hgX] at HTX
            have HX2 := Lib.hid hX2
            clear lt c0 c1 c2 c3 c4 c5 c6 c7 c8 TX hX2 hbX2 hbX
            go_upto_region 20 with fail
            rw [← HX2.out, ← hgX]
            clear HX2 hgX
            obtain ⟨lt, c0, c1, c2, c3, c4, c5, c6, c7, c8⟩ := HEX.out
            go_wp2_with fail
            refine (deval_any _ _ X2 _ _ (cols.set j o) ps (ExM.ext HBX.out _ _ HX.out) HVMX.out HVR.out (HG.out.on HBX.out)).mono ?_
            rintro e Z ⟨he, hbZ⟩
            rw [HEV2.out] at he
            simp only at he
            subst he
            have HBZ := Lib.hid (HBX.out.trans (hbZ.mono HBX.out.size))
            have T1 := (HTX.out.on hbZ).on (ext_alloc (ext_refl Z) (.cells #[.int .i64 rk, .int .i64 rn, .string rs] 23))
            have T2 := TV.new_ Z rk rn rs
            have HBQ := Lib.hid (ext_alloc HBZ.out (.cells #[.int .i64 rk, .int .i64 rn, .string rs] 23))
            have heq : ∀ w, (binOp .eql 23 (.agg #[.int .i64 rk, .int .i64 rn, .string rs]) (.agg #[.int .i64 rk, .int .i64 rn, .string rs])).run Tryd.prog w = .ok (.bool true) w := fun w => (Tryd.eqlVal ⟨rk, rn, rs⟩ ⟨rk, rn, rs⟩ w).trans (by simp)
            obtain ⟨Q2, hQ2⟩ : ∃ X2, X2 = Z.alloc (.cells #[.int .i64 rk, .int .i64 rn, .string rs] 23) := ⟨_, rfl⟩
            rw [← hQ2] at T1 T2 HBQ
            obtain ⟨gZ, hgZ⟩ : ∃ g, g = Z.heap.size := ⟨_, rfl⟩
            rw [← hgZ] at T2
            have HQ2 := Lib.hid hQ2
            clear lt c0 c1 c2 c3 c4 c5 c6 c7 c8 hQ2 hbZ
            go_upto_region 21 with fail
            rw [← HQ2.out, ← hgZ]
            clear HQ2 hgZ
            obtain ⟨t1, d0, d1, d2, df⟩ := T1
            obtain ⟨t2, e0, e1, e2, ef⟩ := T2
            go_wp2_with fail
            refine bodyPost_ret (v := .bool true) (by simp [results, Tryd.results9, go_sem]) rfl ⟨rfl, HBQ.out⟩

end Go.Proofs.YthdnbcdcfaocmaaDoor
