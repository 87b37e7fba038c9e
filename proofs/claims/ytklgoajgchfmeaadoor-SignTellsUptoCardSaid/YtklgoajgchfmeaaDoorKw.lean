/- A part of the proof. -/
import Derived.Test.YtklgoajgchfmeaaDoorSnRc
set_option linter.unusedVariables false
set_option linter.unusedSimpArgs false
namespace Go.Proofs.YtklgoajgchfmeaaDoor
open Go.RowKit Go.Maps Go.ChangeShapes Go.Deep Go.Shelf
set_option maxRecDepth 100000
theorem bits_andin {t S : Nat} (ht : t < 65536) (hS : S < 9223372036854775808) : (bits .and .i64 (t : Int) (S : Int) == (t : Int)) = decide (t &&& S = t) := by
  have key : bits .and .i64 (t : Int) (S : Int) = IntKind.wrap .i64 ((BitVec.ofNat 64 t &&& BitVec.ofNat 64 S).toNat : Int) := by
    change IntKind.wrap .i64 ((BitVec.ofInt 64 (t : Int) &&& BitVec.ofInt 64 (S : Int)).toNat : Int) = _
    rw [BitVec.ofInt_natCast, BitVec.ofInt_natCast]
  have e : (BitVec.ofNat 64 t &&& BitVec.ofNat 64 S).toNat = t &&& S := by rw [BitVec.toNat_and, BitVec.toNat_ofNat, BitVec.toNat_ofNat, Nat.mod_eq_of_lt (by omega), Nat.mod_eq_of_lt (by omega)]
  have hle : t &&& S ≤ t := Nat.and_le_left
  rw [key, e, IntKind.wrap_i64, Bool.eq_iff_iff, beq_iff_eq, decide_eq_true_eq]
  omega
set_option maxHeartbeats 16000000 in
theorem rwithin_any (L : List Ex) (q : Option Addr) (c : Nat) (set : Int) (w : World) (hL : ExL w q 0 L) (hn : L.length * 104 ≤ 140737488355328) (hs : inR set = true) :
    Calls Tryd.prog 17 #[.slice q L.length c, .int .i64 set] w fun e w' => (∃ v, e = .returned v ∧ OwnN w' w.heap.size v ((withinE set L).map fun i : Nat => (i : Int))) ∧ Below w.heap.size w w' := by
  have HL := Lib.hid hL
  obtain ⟨len, hlen⟩ : ∃ len, len = L.length := ⟨_, rfl⟩
  rw [← hlen] at hn ⊢
  have HLEN := Lib.hid hlen
  clear hL hlen
  by_cases h0 : set < 0
  · have HE := Lib.hid (show withinE set L = [] by
      unfold withinE
      refine List.filter_eq_nil_iff.2 fun i _ => ?_
      unfold inSet
      rw [decide_eq_false (by omega)]
      simp)
    have hneg : ¬ 0 ≤ set := by omega
    go_enter Tryd.func17, Tryd.ntmps17
    go_wp2_with fail
    go_loopw [5, 6] (fun v5 v6 wr => ∃ i : Nat, v5 = .slice none 0 0 ∧ v6 = .int .i64 i ∧ i ≤ len ∧ Hid (Below w.heap.size w wr)) (fun _ v6 _ => ((len : Int) - intOf v6).toNat)
    case atStart => exact ⟨0, rfl, rfl, Nat.zero_le _, Below.refl _ _⟩
    case round =>
      obtain ⟨i, rfl, rfl, hi, HH⟩ := hrel
      obtain ⟨V, hV⟩ : ∃ V, V = wr := ⟨_, rfl⟩
      rw [← hV] at HH
      rw [← hV]
      clear hV
      have HB := Lib.hid HH.out
      clear HH
      by_cases hlt : i < len
      · have hiL : i < L.length := by rw [← HLEN.out]; exact hlt
        have hy : L[i]? = some (L[i]'hiL) := List.getElem?_eq_getElem hiL
        obtain ⟨y, hye⟩ : ∃ y, y = L[i]'hiL := ⟨_, rfl⟩
        rw [← hye] at hy
        have hl_ := ExL.at_ (ExL.ext HB.out _ _ _ HL.out) hy
        obtain ⟨g0, off0, cs0, hq0, hg0, hx0, hcell⟩ := hl_
        subst hq0
        have HX0 := Lib.hid hx0
        clear hy hye hiL
        obtain ⟨op1, v1, rel1, col1, n1, s1, l1⟩ := y
        rw [ExM.iff] at hx0
        obtain ⟨-, qq0, cc0, rfl, -, -⟩ := hx0
        have f0 := hcell 0 _ rfl
        have f1 := hcell 1 _ rfl
        have f2 := hcell 2 _ rfl
        have f3 := hcell 3 _ rfl
        have f4 := hcell 4 _ rfl
        have f5 := hcell 5 _ rfl
        have f6 := hcell 6 _ rfl
        have f7 := hcell 7 _ rfl
        have f8 := hcell 8 _ rfl
        simp only [Nat.zero_add, Nat.add_zero] at f0 f1 f2 f3 f4 f5 f6 f7 f8
        clear hcell
        go_wp2_with fail
        refine (tablesE_any _ _ V HX0.out).mono ?_
        rintro e X ⟨rfl, hbX⟩
        have HBX := Lib.hid (HB.out.trans (hbX.mono HB.out.size))
        clear hbX f0 f1 f2 f3 f4 f5 f6 f7 f8 hg0 HX0
        have hll : i + 1 ≤ 1353245080340 := by omega
        go_wp2_with fail
        go_roundw
        case rel => exact ⟨i + 1, rfl, by go_num, hlt, HBX.out⟩
        case measure => simp [intOf] <;> omega
      · go_wp2_with fail
        refine bodyPost_ret (v := .slice none 0 0) (by simp [results, Tryd.results17, go_sem]) rfl ⟨⟨_, rfl, ?_⟩, HB.out⟩
        rw [HE.out]
        exact OwnF.nil _ _ _
  · obtain ⟨S, hS⟩ : ∃ S : Nat, set = S := ⟨set.toNat, by omega⟩
    subst hS
    obtain ⟨hs1, hs2⟩ := inR_iff.1 hs
    have hS63 : S < 9223372036854775808 := by omega
    clear hs hs1 hs2 h0
    go_enter Tryd.func17, Tryd.ntmps17
    go_wp2_with fail
    go_loopw [5, 6] (fun v5 v6 wr => ∃ i : Nat, v6 = .int .i64 i ∧ i ≤ len ∧ Hid (OwnN wr w.heap.size v5 (((List.range i).filter fun i => inSet S (L.getD i (.mk 0 zeroVal 0 0 0 ⟨#[]⟩ []))).map fun i : Nat => (i : Int)) ∧ Below w.heap.size w wr)) (fun _ v6 _ => ((len : Int) - intOf v6).toNat)
    case atStart => exact ⟨0, rfl, Nat.zero_le _, OwnF.nil _ _ _, Below.refl _ _⟩
    case round =>
      obtain ⟨i, rfl, hi, HH⟩ := hrel
      obtain ⟨V, hV⟩ : ∃ V, V = wr := ⟨_, rfl⟩
      rw [← hV] at HH
      rw [← hV]
      clear hV
      have HO := Lib.hid HH.out.1
      have HB := Lib.hid HH.out.2
      clear HH
      by_cases hlt : i < len
      · have hiL : i < L.length := by rw [← HLEN.out]; exact hlt
        have hy : L[i]? = some (L[i]'hiL) := List.getElem?_eq_getElem hiL
        have HT := Lib.hid (within_snoc S L i hiL)
        obtain ⟨y, hye⟩ : ∃ y, y = L[i]'hiL := ⟨_, rfl⟩
        rw [← hye] at hy HT
        have hl_ := ExL.at_ (ExL.ext HB.out _ _ _ HL.out) hy
        obtain ⟨g0, off0, cs0, hq0, hg0, hx0, hcell⟩ := hl_
        subst hq0
        have HX0 := Lib.hid hx0
        obtain ⟨M, hM⟩ : ∃ M, M = ((List.range i).filter fun i => inSet S (L.getD i (.mk 0 zeroVal 0 0 0 ⟨#[]⟩ []))) := ⟨_, rfl⟩
        rw [← hM] at HO HT
        have HML := Lib.hid (show M.length ≤ i by rw [hM]; exact Nat.le_trans (List.length_filter_le _ _) (by simp))
        clear hy hM hye hiL
        obtain ⟨op1, v1, rel1, col1, n1, s1, l1⟩ := y
        rw [ExM.iff] at hx0
        obtain ⟨-, qq0, cc0, rfl, -, -⟩ := hx0
        have f0 := hcell 0 _ rfl
        have f1 := hcell 1 _ rfl
        have f2 := hcell 2 _ rfl
        have f3 := hcell 3 _ rfl
        have f4 := hcell 4 _ rfl
        have f5 := hcell 5 _ rfl
        have f6 := hcell 6 _ rfl
        have f7 := hcell 7 _ rfl
        have f8 := hcell 8 _ rfl
        simp only [Nat.zero_add, Nat.add_zero] at f0 f1 f2 f3 f4 f5 f6 f7 f8
        clear hcell
        go_wp2_with fail
        refine (tablesE_any _ _ V HX0.out).mono ?_
        rintro e X ⟨rfl, hbX⟩
        have HBX := Lib.hid hbX
        have HIN := Lib.hid (show inSet S (.mk op1 v1 rel1 col1 n1 s1 l1) = (decide (tablesE (.mk op1 v1 rel1 col1 n1 s1 l1) ≠ 0) && decide (tablesE (.mk op1 v1 rel1 col1 n1 s1 l1) &&& S = tablesE (.mk op1 v1 rel1 col1 n1 s1 l1))) by unfold inSet; simp)
        have hTlt : tablesE (.mk op1 v1 rel1 col1 n1 s1 l1) < 65536 := by
          unfold tablesE
          cases hr : rightE (.mk op1 v1 rel1 col1 n1 s1 l1)
          · show 0 < 65536; decide
          · exact tabs_lt _ (right_iff8.1 hr).1
        obtain ⟨T, hTe⟩ : ∃ T, T = tablesE (.mk op1 v1 rel1 col1 n1 s1 l1) := ⟨_, rfl⟩
        rw [← hTe] at HIN hTlt ⊢
        have hAN := bits_andin (S := S) hTlt hS63
        obtain ⟨Z, hZ⟩ : ∃ Z, bits .and .i64 (T : Int) (S : Int) = Z := ⟨_, rfl⟩
        rw [hZ] at hAN
        clear hTe hbX f0 f1 f2 f3 f4 f5 f6 f7 f8
        have hll : i + 1 ≤ 1353245080340 := by omega
        cases hin : inSet S (.mk op1 v1 rel1 col1 n1 s1 l1) with
        | true =>
          have h1 := HIN.out
          rw [hin] at h1
          rw [eq_comm, Bool.and_eq_true, decide_eq_true_eq, decide_eq_true_eq] at h1
          have b1 : ((T : Int) != 0) = true := by rw [bne_iff_ne]; omega
          rw [decide_eq_true h1.2] at hAN
          rw [hin, if_pos rfl] at HT
          have HO2 := Lib.hid ((HO.out.later HBX.out).later (ext_alloc (ext_refl X) (.cells #[.int .i64 (i : Int)] 3)))
          have B2 := Lib.hid (HBX.out.trans ((ext_alloc (ext_refl X) (.cells #[.int .i64 (i : Int)] 3)).mono HBX.out.size))
          have hml : (M.map fun i : Nat => (i : Int)).length ≤ i := by rw [List.length_map]; exact HML.out
          obtain ⟨K, hK⟩ : ∃ K, K = M.map fun i : Nat => (i : Int) := ⟨_, rfl⟩
          rw [← hK] at HO2 hml
          have HK := Lib.hid hK
          clear h1 hin hK
          go_wp2_with (at_builtin; refine wp_append_flat rfl _ _ 40 3 rfl Tryd.underlying40 (.int .i64 0) 8 Tryd.infoIntN rfl (by decide) nCell_len nCell_one w.heap.size _ K rfl HO2.out _ 1 1 [(i : Int)] rfl rfl 0 (X.heap.size + 1) (one_block nCell_len 3 #[.int .i64 (i : Int)] (i : Int) rfl _ rfl) ?k1 ?k2 ?k3 ?_)
          case k1 => simp only [List.length_cons, List.length_nil]; unfold maxLen; omega
          case k2 => simp only [List.length_cons, List.length_nil]; omega
          case k3 => exact Nat.le_trans HB.out.size B2.out.size
          intro v' Y hO hbY hoY
          have HN := Lib.hid (show OwnN Y w.heap.size v' (((List.range (i + 1)).filter fun i => inSet S (L.getD i (.mk 0 zeroVal 0 0 0 ⟨#[]⟩ []))).map fun i : Nat => (i : Int)) by rw [HT.out, List.map_append, ← HK.out]; exact hO)
          have HBY := Lib.hid ((HB.out.trans (B2.out.mono HB.out.size)).trans hbY)
          clear hO hbY hoY HO HO2 B2 HBX HX0 HIN hml HK
          go_wp2_with fail
          go_roundw
          case rel => exact ⟨i + 1, by go_num, hlt, HN.out, HBY.out⟩
          case measure => simp [intOf] <;> omega
        | false =>
          have h1 := HIN.out
          rw [hin] at h1
          rw [hin, if_neg (by decide), List.append_nil] at HT
          have HN := Lib.hid (show OwnN X w.heap.size u5 (((List.range (i + 1)).filter fun i => inSet S (L.getD i (.mk 0 zeroVal 0 0 0 ⟨#[]⟩ []))).map fun i : Nat => (i : Int)) by rw [HT.out]; exact HO.out.later HBX.out)
          have HBY := Lib.hid (HB.out.trans (HBX.out.mono HB.out.size))
          by_cases h0 : T = 0
          · have b1 : ((T : Int) != 0) = false := by rw [h0]; rfl
            clear h1 hin HO HX0 HIN hAN hZ h0
            go_wp2_with fail
            go_roundw
            case rel => exact ⟨i + 1, by go_num, hlt, HN.out, HBY.out⟩
            case measure => simp [intOf] <;> omega
          · have b1 : ((T : Int) != 0) = true := by rw [bne_iff_ne]; omega
            rw [decide_eq_true h0, Bool.true_and] at h1
            rw [← h1] at hAN
            clear h1 hin HO HX0 HIN h0
            go_wp2_with fail
            go_roundw
            case rel => exact ⟨i + 1, by go_num, hlt, HN.out, HBY.out⟩
            case measure => simp [intOf] <;> omega
      · have HE := Lib.hid (show ((List.range i).filter fun i => inSet S (L.getD i (.mk 0 zeroVal 0 0 0 ⟨#[]⟩ []))) = withinE S L by rw [show i = L.length by rw [← HLEN.out]; omega]; rfl)
        rw [HE.out] at HO
        go_wp2_with fail
        refine bodyPost_ret (v := u5) (by simp [results, Tryd.results17, go_sem]) rfl ⟨⟨_, rfl, HO.out⟩, HB.out⟩
set_option maxHeartbeats 8000000 in
theorem numbers_any (l : List Int) (qa qb : Option Addr) (ca cb : Nat) (w : World) (ha : ArrA 0 w.heap.size qa 1 l (fun g o x => ∀ (k : Nat) u, (nCell x)[k]? = some u → w.cell? ⟨g, o + k, none⟩ = some u)) (hb : ArrA 0 w.heap.size qb 1 l (fun g o x => ∀ (k : Nat) u, (nCell x)[k]? = some u → w.cell? ⟨g, o + k, none⟩ = some u)) (hn : l.length ≤ 1353245080340) :
    Calls Tryd.prog 15 #[.slice qa l.length ca, .slice qb l.length cb] w fun e w' => e = .returned (.bool true) ∧ Below w.heap.size w w' := by
  have HA := Lib.hid ha
  have HB := Lib.hid hb
  obtain ⟨n, hnn⟩ : ∃ n, n = l.length := ⟨_, rfl⟩
  have HN := Lib.hid hnn
  rw [← hnn] at hn ⊢
  clear hnn ha hb
  go_enter Tryd.func15, Tryd.ntmps15
  go_wp2_with fail
  go_loopw [5] (fun v5 wr => ∃ i : Nat, v5 = .int .i64 i ∧ i ≤ n ∧ Hid (Below w.heap.size w wr)) (fun v5 _ => ((n : Int) - intOf v5).toNat)
  case atStart => exact ⟨0, rfl, Nat.zero_le _, Below.refl _ _⟩
  case round =>
    obtain ⟨i, rfl, hi, HH⟩ := hrel
    obtain ⟨V, hV⟩ : ∃ V, V = wr := ⟨_, rfl⟩
    rw [← hV] at HH
    rw [← hV]
    clear hV
    by_cases hlt : i < n
    · obtain ⟨ga, oa, hqa, -, hga, h1⟩ := HA.out i (by rw [← HN.out]; exact hlt)
      obtain ⟨gb, ob, hqb, -, hgb, h2⟩ := HB.out i (by rw [← HN.out]; exact hlt)
      subst hqa hqb
      obtain ⟨z, hz⟩ : ∃ z, l[i]? = some z := ⟨_, List.getElem?_eq_getElem (by rw [← HN.out]; exact hlt)⟩
      have c1 := (HH.out.cell (p := ⟨ga, oa + i * 1 + 0, none⟩) hga).trans (h1 i z hz 0 _ rfl)
      have c2 := (HH.out.cell (p := ⟨gb, ob + i * 1 + 0, none⟩) hgb).trans (h2 i z hz 0 _ rfl)
      simp only [Nat.mul_one, Nat.add_zero] at c1 c2
      clear h1 h2 hz hga hgb
      go_upto_region 6 with fail
      have r1 := fun (x : After V) => (x.below.cell (p := ⟨ga, oa + i, none⟩) (World.block_lt_of_cell? V _ (by rw [c1]))).trans c1
      have r2 := fun (x : After V) => (x.below.cell (p := ⟨gb, ob + i, none⟩) (World.block_lt_of_cell? V _ (by rw [c2]))).trans c2
      have is := After.some V
      refine wp_region_after (by kernel_rfl) (by kernel_rfl) ?_
      repeat (quiet_step (fail))
      refine wpQuiet_nil ?_
      intro Wq hw
      obtain ⟨⟨Wq, hbq⟩, rfl⟩ := hw
      have HBQ := Lib.hid (HH.out.trans (hbq.mono HH.out.size))
      clear r1 r2 is c1 c2 hbq
      go_wp2_with fail
      go_roundw
      case rel => exact ⟨i + 1, by go_num, hlt, HBQ.out⟩
      case measure => simp [intOf] <;> omega
    · go_wp2_with fail
      refine bodyPost_ret (v := .bool true) (by simp [results, Tryd.results15, go_sem]) rfl ⟨rfl, HH.out⟩
open Go.RowKit Go.Deep Go.Maps Go.ChangeShapes Go.Shelf
set_option maxRecDepth 100000
def RRankC (S : Nat) (x : Ex) : Prop := ∀ (w : World) (cs : List Value), ExM w x cs → x.okAll = true → Calls Tryd.prog 35 #[.agg cs.toArray, .int .i64 (S : Int)] w fun e w' => (∃ cs' : List Value, e = .returned (.agg cs'.toArray) ∧ ExMP w' (fun g => w.heap.size ≤ g) (x.rank S) cs') ∧ Below w.heap.size w w'
theorem RQ.cell4 {w N : World} {g g1 g2 : Nat} {r0 r : RawE} {v : Value} {L : List Ex} (h : RQ w N g g1 g2 r0 r v L) (rel : Int) : RQ w (N.setCell ⟨g2, 4, none⟩ (.int .i64 rel)) g g1 g2 r0 ⟨r.op, r.v, rel, r.col, r.n, r.s, r.q, r.len, r.c⟩ v L := by
  obtain ⟨b, x1, x2, x3, ⟨gw, e1, e2⟩, o⟩ := h
  have ho : Out (fun k => k = g2) N (N.setCell ⟨g2, 4, none⟩ (.int .i64 rel)) := Out.set ⟨g2, 4, none⟩ _ rfl
  refine ⟨b.trans (ho.below b.size (fun k hk => by rw [hk]; omega)), x1.out ho (by omega), x2.out ho (by omega), x3.set1 (by decide) rfl, ⟨gw, e1, e2⟩, o.outs ho (fun k hk e => ?_) (fun k hk e => ?_)⟩
  · have := (o.lt k e).1; omega
  · omega
theorem step_callR2 {w : World} {ops : Array Oper} {o : Oper} {a : Act} {K : Act → World → Prop} {Q : Exit → Act → World → Prop} {R : Prop} (hgd : o.guard = none) (f : Nat) (x y : Operand) (ts : Array TypeId) (ho : o.op = .call { callee := .value (.func f), args := #[x, y], argTypes := ts }) (u v : Value) (hx : a.eval x = u) (hy : a.eval y = v)
    (hcf : (callFunc f #[u, v]).run Tryd.prog w = .ok (.enter f #[u, v]) w) (h : Calls Tryd.prog f #[u, v] w (fun e w' => ∃ r, e = .returned r ∧ K (a.put o.dst r) w')) : if Region.wanted o (yielded ops a.tmps) = true then Oper.wp Tryd.prog o a w K Q else R := by
  have hw : Region.wanted o (yielded ops a.tmps) = true := by simp [Region.wanted, hgd]
  rw [if_pos hw]
  unfold Oper.wp execOp
  simp only [ho, resolve, invoke, Sem.run_bind, List.map_toArray, List.map_cons, List.map_nil, hx, hy]
  have e : a.eval (.func f) = .func (.func f) #[] #[] := rfl
  rw [e]
  have e2 : (Deferred.ofValue (.func (.func f) #[] #[]) #[u, v]).run Tryd.prog w = .ok ⟨.fn (.func f) #[], #[u, v]⟩ w := by
    simp [Deferred.ofValue, go_sem]
  simp only [e2, Result.andThen_ok, Array.append_empty]
  rw [hcf]
  refine h.mono ?_
  rintro e w' ⟨r, rfl, hk⟩
  exact hk
theorem Tryd.enterRRanked (vals : Array Value) (w : World) : (callFunc 35 vals).run Tryd.prog w = .ok (.enter 35 vals) w := by kernel_rfl
set_option maxHeartbeats 8000000 in
theorem rrankC_step (S : Nat) (hS : S < 65536) (op : Int) (v : Val) (rel col n : Int) (s : ByteArray) (l : List Ex) (hlm : l.length ≤ 2) (IH : ∀ y ∈ l, RRankC S y) : RRankC S (.mk op v rel col n s l) := by
  intro w cs hx hr
  have HR := Lib.hid (show headOk op v rel col n s l.length = true ∧ ∀ y ∈ l, y.okAll = true from by
    rw [Ex.okAll, Bool.and_eq_true] at hr
    exact ⟨hr.1, fun y hy => by obtain ⟨i, hi, he⟩ := List.getElem_of_mem hy; exact okL_all hr.2 (i := i) (by rw [List.getElem?_eq_getElem hi, he])⟩)
  have HI := Lib.hid IH
  rw [ExM.iff] at hx
  obtain ⟨hv, q, c, rfl, -, hl⟩ := hx
  have HV := Lib.hid hv
  have HL := Lib.hid hl
  obtain ⟨len, hlen⟩ : ∃ len, len = l.length := ⟨_, rfl⟩
  rw [← hlen] at hlm ⊢
  have HLEN := Lib.hid hlen
  obtain ⟨W1, h1⟩ : ∃ W, w.alloc (.cells (RawE.cells ⟨op, v, rel, col, n, s, q, len, c⟩).toArray 26) = W := ⟨_, rfl⟩
  obtain ⟨W2, h2⟩ : ∃ W, W1.alloc (.cells rawZ.cells.toArray 26) = W := ⟨_, rfl⟩
  obtain ⟨W3, h3⟩ : ∃ W, W2.alloc (.cells (RawE.cells ⟨op, v, rel, col, n, s, none, 0, 0⟩).toArray 26) = W := ⟨_, rfl⟩
  have hQ := RQ.start h1 h2 h3 rfl rfl rfl
  have HW := Lib.hid (show ((w.alloc (.cells (RawE.cells ⟨op, v, rel, col, n, s, q, len, c⟩).toArray 26)).alloc (.cells rawZ.cells.toArray 26)).alloc (.cells (RawE.cells ⟨op, v, rel, col, n, s, none, 0, 0⟩).toArray 26) = W3 by rw [h1, h2, h3])
  have HZ := Lib.hid (show W1.heap.size = w.heap.size + 1 ∧ W2.heap.size = w.heap.size + 1 + 1 by rw [← h2, ← h1]; simp)
  have HQ := Lib.hid hQ
  clear hQ hv hl hr IH hlen h1 h2 h3
  go_enter Tryd.func35, Tryd.ntmps35
  go_upto_region 3 with fail
  change Code.wp _ _ _ _ (((w.alloc (.cells (RawE.cells ⟨op, v, rel, col, n, s, q, len, c⟩).toArray 26)).alloc (.cells rawZ.cells.toArray 26)).alloc (.cells (RawE.cells ⟨op, v, rel, col, n, s, none, 0, 0⟩).toArray 26))
  rw [HW.out]
  obtain ⟨z1, z2⟩ := HZ.out
  rw [z1, z2] at HQ
  obtain ⟨g, hg⟩ : ∃ g, g = w.heap.size := ⟨_, rfl⟩
  obtain ⟨g1, hg1⟩ : ∃ g, g = w.heap.size + 1 := ⟨_, rfl⟩
  obtain ⟨g2, hg2⟩ : ∃ g, g = w.heap.size + 1 + 1 := ⟨_, rfl⟩
  rw [← hg2, ← hg1, ← hg] at HQ
  rw [← hg2, ← hg1, ← hg]
  clear HW HZ z1 z2 hg hg1 hg2
  go_wp2_with fail
  go_loopw [6] (fun v4 wr => ∃ (i : Nat) (qv : Option Addr) (cv : Nat), v4 = .int .i64 i ∧ i ≤ len ∧ Hid (RQ w wr g g1 g2 ⟨op, v, rel, col, n, s, q, len, c⟩ ⟨op, v, rel, col, n, s, qv, i, cv⟩ (.slice qv i cv) (rankL S (l.take i)))) (fun v4 _ => len - (intOf v4).toNat)
  case atStart => exact ⟨0, none, 0, rfl, Nat.zero_le _, by rw [List.take_zero, rankL]; exact HQ.out⟩
  case round =>
    obtain ⟨i, qv, cv, rfl, hi, HH⟩ := hrel
    obtain ⟨V, hV⟩ : ∃ V, V = wr := ⟨_, rfl⟩
    rw [← hV] at HH
    rw [← hV]
    have HQ := Lib.hid HH.out
    clear hV HH
    have lt := HQ.out.x1.lt
    have c8 := HQ.out.x1.c 8 _ rfl
    have lt2 := HQ.out.x3.lt
    simp only at c8
    by_cases hlt : i < len
    · obtain ⟨y, hy⟩ : ∃ y, l[i]? = some y := ⟨_, List.getElem?_eq_getElem (by rw [← HLEN.out]; exact hlt)⟩
      have hl_ := ExL.at_ HL.out hy
      obtain ⟨g0, off0, cs0, hq0, hg0, hx0, hcell⟩ := hl_
      subst hq0
      have HX0 := Lib.hid hx0
      have HG0 := Lib.hid hg0
      have HIY := Lib.hid (HI.out y (List.mem_of_getElem? hy))
      have HRY := Lib.hid (HR.out.2 y (List.mem_of_getElem? hy))
      have HT := Lib.hid (show rankL S (l.take (i + 1)) = rankL S (l.take i) ++ [y.rank S] by rw [rankL_map S, rankL_map S, take_snoc hy, List.map_append]; rfl)
      have HTL := Lib.hid (show (rankL S (l.take i)).length = i by rw [rankL_map S, List.length_map, List.length_take]; have := HLEN.out; omega)
      obtain ⟨M, hM⟩ : ∃ M, M = rankL S (l.take i) := ⟨_, rfl⟩
      rw [← hM] at HT HTL HQ
      clear hy hM hx0
      obtain ⟨op1, v1, rel1, col1, n1, s1, l1⟩ := y
      have hx0 := HX0.out
      rw [ExM.iff] at hx0
      obtain ⟨-, qq0, cc0, rfl, -, -⟩ := hx0
      have hS : ∀ W' : World, XB W' g ⟨op, v, rel, col, n, s, some ⟨g0, off0, none⟩, len, c⟩ → Below w.heap.size w W' → (fun W' => W'.cell? ⟨g, 8, none⟩ = some (.slice (some ⟨g0, off0, none⟩) len c) ∧ W'.cell? ⟨g0, off0 + i * 9, none⟩ = some (.int .i64 op1) ∧ W'.cell? ⟨g0, off0 + i * 9 + 1, none⟩ = some (.int .i64 v1.k) ∧ W'.cell? ⟨g0, off0 + i * 9 + 2, none⟩ = some (.int .i64 v1.n) ∧ W'.cell? ⟨g0, off0 + i * 9 + 3, none⟩ = some (.string v1.s) ∧ W'.cell? ⟨g0, off0 + i * 9 + 4, none⟩ = some (.int .i64 rel1) ∧ W'.cell? ⟨g0, off0 + i * 9 + 5, none⟩ = some (.int .i64 col1) ∧ W'.cell? ⟨g0, off0 + i * 9 + 6, none⟩ = some (.int .i64 n1) ∧ W'.cell? ⟨g0, off0 + i * 9 + 7, none⟩ = some (.string s1) ∧ W'.cell? ⟨g0, off0 + i * 9 + 8, none⟩ = some (.slice qq0 l1.length cc0)) W' := fun W' q1 qb => by
        have e := fun k u hu => (qb.cell (p := ⟨g0, off0 + (0 + i) * 9 + k, none⟩) hg0).trans (hcell k u hu)
        have e0 := e 0 _ rfl
        have e1 := e 1 _ rfl
        have e2 := e 2 _ rfl
        have e3 := e 3 _ rfl
        have e4 := e 4 _ rfl
        have e5 := e 5 _ rfl
        have e6 := e 6 _ rfl
        have e7 := e 7 _ rfl
        have e8 := e 8 _ rfl
        simp only [Nat.zero_add, Nat.add_zero] at e0 e1 e2 e3 e4 e5 e6 e7 e8
        exact ⟨q1.c 8 _ rfl, e0, e1, e2, e3, e4, e5, e6, e7, e8⟩
      have HS := Lib.hid hS
      clear hS hcell hg0
      go_upto_region 6 with fail
      have bd : Below V.heap.size V V.drew := ext_drew (ext_refl _)
      have HQD := Lib.hid (HQ.out.on bd)
      have SA := Lib.hid (HS.out _ HQD.out.x1 HQD.out.b)
      have d8 := HQD.out.x3.c 8 _ rfl
      simp only at d8
      have HG3 := Lib.hid (show g + 3 ≤ V.drew.heap.size by have h1 := HQD.out.x3.lt; have h2 := HQD.out.gw; omega)
      clear bd HQ c8 lt lt2
      obtain ⟨Z, hZ⟩ : ∃ Z, Z = (Ex.mk op1 v1 rel1 col1 n1 s1 l1).rank S := ⟨_, rfl⟩
      have HNC := Lib.hid (HIY.out V.drew _ (ExM.ext HQD.out.b _ _ HX0.out) HRY.out)
      rw [← hZ] at HNC HT
      clear hZ HX0 HIY
      obtain ⟨s8, t0, t1, t2, t3, t4, t5, t6, t7, t8⟩ := SA.out
      have ltd := HQD.out.x3.lt
      clear SA
      go_region_law (first
        | (refine step_callR2 rfl 35 _ _ _ rfl (.agg #[.int .i64 op1, .int .i64 v1.k, .int .i64 v1.n, .string v1.s, .int .i64 rel1, .int .i64 col1, .int .i64 n1, .string s1, .slice qq0 l1.length cc0]) (.int .i64 (S : Int)) rfl rfl (Tryd.enterRRanked _ _) ?_; with_reducible refine HNC.out.mono ?_; rintro e Y ⟨⟨cs', rfl, hP⟩, hbY⟩; refine ⟨_, rfl, ?_⟩; have HP := Lib.hid hP; have HQY := Lib.hid (HQD.out.on hbY); have y8 := HQY.out.x3.c 8 _ rfl; have ylt := HQY.out.x3.lt; simp only at y8; obtain ⟨r', rfl⟩ := hP.raw; clear hP hbY; obtain ⟨opz, ⟨vkz, vnz, vsz⟩, relz, colz, nz, sz, qz, lenz, cz⟩ := r'; have HQA := Lib.hid (HQY.out.on (ext_alloc (ext_refl Y) (.cells (exCells opz ⟨vkz, vnz, vsz⟩ relz colz nz sz qz lenz cz).toArray 26))); have HA3 := Lib.hid (show g + 3 ≤ (Y.alloc (.cells (exCells opz ⟨vkz, vnz, vsz⟩ relz colz nz sz qz lenz cz).toArray 26)).heap.size by have h1 := HQA.out.x3.lt; have h2 := HQA.out.gw; omega))
        | (refine step_append_x rfl _ _ rfl (g + 3) (fun k => g + 3 ≤ k) (.slice qv i cv) M rfl HQA.out.o i HTL.out.symm ⟨opz, ⟨vkz, vnz, vsz⟩, relz, colz, nz, sz, qz, lenz, cz⟩ Z _ _ 0 (Y.heap.size + 1) rfl (one_block RawE.cells_len 26 _ ⟨opz, ⟨vkz, vnz, vsz⟩, relz, colz, nz, sz, qz, lenz, cz⟩ rfl _ rfl) (renum_k1 HG3.out HQD.out.o HP.out) (by omega) HA3.out ?_; intro q3 c3 Q hO hbQ hoQ; rw [← HT.out] at hO; obtain ⟨m1, m3, mb⟩ := HQA.out.mid hoQ; have HN := Lib.hid (HQA.out.put hO hoQ); have fz := m3.fz 8; have lz := m3.lt; have z8 := m3.c 8 _ rfl; simp only at z8; clear hO hbQ hoQ m1 m3 mb))
      all_goals
        go_wp2_with fail
        go_roundw
        case rel => exact ⟨i + 1, q3, c3, by go_num, hlt, HN.out⟩
        case measure => simp [intOf] <;> omega
    · obtain rfl : i = len := by omega
      have HQ := Lib.hid (show RQ w V g g1 g2 ⟨op, v, rel, col, n, s, q, i, c⟩ ⟨op, v, rel, col, n, s, qv, i, cv⟩ (.slice qv i cv) (rankL S l) by
        have h := HQ.out
        rw [show i = l.length from HLEN.out, List.take_length] at h
        rw [← HLEN.out] at h
        exact h)
      have HLL := Lib.hid (show i = (rankL S l).length by rw [rankL_map, List.length_map]; exact HLEN.out)
      have k00 := HQ.out.x1.c 0 _ rfl
      simp only at k00
      clear HI HL hi hlt hlm
      by_cases hop : op = 2
      · subst hop
        have hrel := rel_ok HR.out.1 rfl
        obtain ⟨R, hR⟩ : ∃ R : Nat, rel = (R : Int) := ⟨rel.toNat, by omega⟩
        have hR15 : R ≤ 15 := by omega
        subst hR
        have HNRM := Lib.hid (show (Ex.mk 2 v (R : Int) col n s l).rank S = .mk 2 v (rkN S R : Int) col n s (rankL S l) by
          rw [Ex.rank, if_pos rfl]
          rfl)
        have lt2 := HQ.out.x3.lt
        have fz2 := HQ.out.x3.fz 4
        have c4 := HQ.out.x3.c 4 _ rfl
        simp only at c4
        clear hrel HR
        go_upto_region 9 with fail
        have HQ := Lib.hid (HQ.out.cell4 0)
        simp only at HQ
        clear lt c8 k00 lt2 fz2 c4
        generalize V.setCell ⟨g2, 4, none⟩ (.int .i64 0) = N0 at HQ ⊢
        go_wp2_with fail
        go_loopw [7] (fun v7 wr => ∃ j : Nat, v7 = .int .i64 j ∧ j ≤ R ∧ Hid (RQ w wr g g1 g2 ⟨2, v, (R : Int), col, n, s, q, i, c⟩ ⟨2, v, (rkN S j : Int), col, n, s, qv, i, cv⟩ (.slice qv i cv) (rankL S l))) (fun v7 _ => R - (intOf v7).toNat)
        case atStart => exact ⟨0, rfl, Nat.zero_le _, HQ.out⟩
        case round =>
          obtain ⟨j, rfl, hj, HH⟩ := hrel
          obtain ⟨V, hV⟩ : ∃ V, V = wr := ⟨_, rfl⟩
          rw [← hV] at HH
          rw [← hV]
          clear hV
          have HQ := Lib.hid HH.out
          clear HH
          have lt := HQ.out.x1.lt
          have c4 := HQ.out.x1.c 4 _ rfl
          have lt2 := HQ.out.x3.lt
          have fz2 := HQ.out.x3.fz 4
          have d4 := HQ.out.x3.c 4 _ rfl
          simp only at c4 d4
          by_cases hlt : j < R
          · have hrk := rkN_succ S j
            have hle := rkN_le S j
            have hsh := shr_bitS (j := j) hS
            obtain ⟨A, hA⟩ : ∃ A, A = rkN S j := ⟨_, rfl⟩
            rw [← hA] at HQ hrk hle d4
            cases hb : S.testBit j with
            | true =>
              rw [hb] at hsh hrk
              rw [if_pos rfl] at hrk
              have HRK := Lib.hid hrk
              clear hrk hb hA
              go_upto_region 11 with fail
              have HQ := Lib.hid (HQ.out.cell4 ((A : Int) + 1))
              simp only at HQ
              clear lt c4 lt2 fz2 d4 hsh
              generalize V.setCell ⟨g2, 4, none⟩ (.int .i64 ((A : Int) + 1)) = N1 at HQ ⊢
              go_wp2_with fail
              go_roundw
              case rel => exact ⟨j + 1, by go_num, hlt, by rw [HRK.out]; exact HQ.out⟩
              case measure => simp [intOf] <;> omega
            | false =>
              rw [hb] at hsh hrk
              rw [if_neg (by decide), Nat.add_zero] at hrk
              have HRK := Lib.hid hrk
              have HAA := Lib.hid hA
              clear hrk hb hA
              go_wp2_with fail
              go_roundw
              case rel => exact ⟨j + 1, by go_num, hlt, by rw [HRK.out]; exact HQ.out⟩
              case measure => simp [intOf] <;> omega
          · obtain rfl : j = R := by omega
            have HF := Lib.hid (HQ.out.fin rfl HLL.out)
            clear HQ d4 lt2 fz2
            go_upto_region 14 with fail
            clear lt c4
            have HD := Lib.hid (HF.out.done HV.out)
            have w0 := HF.out.x3.c 0 _ rfl
            have w1 := HF.out.x3.c 1 _ rfl
            have w2 := HF.out.x3.c 2 _ rfl
            have w3 := HF.out.x3.c 3 _ rfl
            have w4 := HF.out.x3.c 4 _ rfl
            have w5 := HF.out.x3.c 5 _ rfl
            have w6 := HF.out.x3.c 6 _ rfl
            have w7 := HF.out.x3.c 7 _ rfl
            have w8 := HF.out.x3.c 8 _ rfl
            have lw := HF.out.x3.lt
            have d0 := HF.out.x2.c 0 _ rfl
            have d1 := HF.out.x2.c 1 _ rfl
            have d2 := HF.out.x2.c 2 _ rfl
            have d3 := HF.out.x2.c 3 _ rfl
            have d4 := HF.out.x2.c 4 _ rfl
            have d5 := HF.out.x2.c 5 _ rfl
            have d6 := HF.out.x2.c 6 _ rfl
            have d7 := HF.out.x2.c 7 _ rfl
            have d8 := HF.out.x2.c 8 _ rfl
            have ld := HF.out.x2.lt
            have fd := HF.out.x2.fz
            simp only at w0 w1 w2 w3 w4 w5 w6 w7 w8
            clear HF
            go_wp2_with fail
            change bodyPost _ _ _ _ _ (setE V g1 0 ⟨2, v, (rkN S j : Int), col, n, s, qv, i, cv⟩)
            clear w0 w1 w2 w3 w4 w5 w6 w7 w8 d0 d1 d2 d3 d4 d5 d6 d7 d8 lw ld fd
            obtain ⟨hbQ, ⟨-, cQ, -⟩, hP⟩ := HD.out
            generalize setE V g1 0 ⟨2, v, (rkN S j : Int), col, n, s, qv, i, cv⟩ = QQ at hbQ cQ hP ⊢
            have q0 := cQ 0 _ rfl
            have q1 := cQ 1 _ rfl
            have q2 := cQ 2 _ rfl
            have q3 := cQ 3 _ rfl
            have q4 := cQ 4 _ rfl
            have q5 := cQ 5 _ rfl
            have q6 := cQ 6 _ rfl
            have q7 := cQ 7 _ rfl
            have q8 := cQ 8 _ rfl
            clear cQ HD
            simp only at q0 q1 q2 q3 q4 q5 q6 q7 q8
            refine bodyPost_ret (v := .agg (exCells 2 v (rkN S j : Int) col n s qv i cv).toArray) (by simp [results, Tryd.results35, go_sem, q0, q1, q2, q3, q4, q5, q6, q7, q8]) rfl ⟨⟨_, rfl, ?_⟩, hbQ⟩
            rw [HNRM.out]
            exact hP
      · have b2 : (op == 2) = false := beq_eq_false_iff_ne.2 hop
        have HNRM := Lib.hid (show (Ex.mk op v rel col n s l).rank S = .mk op v rel col n s (rankL S l) by
          rw [Ex.rank, if_neg hop])
        clear hop HR
        have HF := Lib.hid (HQ.out.fin rfl HLL.out)
        clear HQ
        go_upto_region 14 with fail
        clear lt c8 k00 b2
        have HD := Lib.hid (HF.out.done HV.out)
        have w0 := HF.out.x3.c 0 _ rfl
        have w1 := HF.out.x3.c 1 _ rfl
        have w2 := HF.out.x3.c 2 _ rfl
        have w3 := HF.out.x3.c 3 _ rfl
        have w4 := HF.out.x3.c 4 _ rfl
        have w5 := HF.out.x3.c 5 _ rfl
        have w6 := HF.out.x3.c 6 _ rfl
        have w7 := HF.out.x3.c 7 _ rfl
        have w8 := HF.out.x3.c 8 _ rfl
        have lw := HF.out.x3.lt
        have d0 := HF.out.x2.c 0 _ rfl
        have d1 := HF.out.x2.c 1 _ rfl
        have d2 := HF.out.x2.c 2 _ rfl
        have d3 := HF.out.x2.c 3 _ rfl
        have d4 := HF.out.x2.c 4 _ rfl
        have d5 := HF.out.x2.c 5 _ rfl
        have d6 := HF.out.x2.c 6 _ rfl
        have d7 := HF.out.x2.c 7 _ rfl
        have d8 := HF.out.x2.c 8 _ rfl
        have ld := HF.out.x2.lt
        have fd := HF.out.x2.fz
        simp only at w0 w1 w2 w3 w4 w5 w6 w7 w8
        clear HF
        go_wp2_with fail
        change bodyPost _ _ _ _ _ (setE V g1 0 ⟨op, v, rel, col, n, s, qv, i, cv⟩)
        clear w0 w1 w2 w3 w4 w5 w6 w7 w8 d0 d1 d2 d3 d4 d5 d6 d7 d8 lw ld fd
        obtain ⟨hbQ, ⟨-, cQ, -⟩, hP⟩ := HD.out
        generalize setE V g1 0 ⟨op, v, rel, col, n, s, qv, i, cv⟩ = QQ at hbQ cQ hP ⊢
        have q0 := cQ 0 _ rfl
        have q1 := cQ 1 _ rfl
        have q2 := cQ 2 _ rfl
        have q3 := cQ 3 _ rfl
        have q4 := cQ 4 _ rfl
        have q5 := cQ 5 _ rfl
        have q6 := cQ 6 _ rfl
        have q7 := cQ 7 _ rfl
        have q8 := cQ 8 _ rfl
        clear cQ HD
        simp only at q0 q1 q2 q3 q4 q5 q6 q7 q8
        refine bodyPost_ret (v := .agg (exCells op v rel col n s qv i cv).toArray) (by simp [results, Tryd.results35, go_sem, q0, q1, q2, q3, q4, q5, q6, q7, q8]) rfl ⟨⟨_, rfl, ?_⟩, hbQ⟩
        rw [HNRM.out]
        exact hP
theorem rrankC_any (S : Nat) (hS : S < 65536) : ∀ (k : Nat) (x : Ex), x.deep ≤ k → x.okAll = true → RRankC S x
  | 0, x, h, _ => absurd (deep_pos x) (by omega)
  | k + 1, .mk op v rel col n s l, h, ho => by
    have ho' := ho
    rw [Ex.okAll, Bool.and_eq_true] at ho
    exact rrankC_step S hS op v rel col n s l (head_two ho.1) fun y hy => rrankC_any S hS k y (by rw [Ex.deep] at h; have := deepL_of_mem hy; omega) (by obtain ⟨i, hi, he⟩ := List.getElem_of_mem hy; exact okL_all ho.2 (i := i) (by rw [List.getElem?_eq_getElem hi, he]))
end Go.Proofs.YtklgoajgchfmeaaDoor
