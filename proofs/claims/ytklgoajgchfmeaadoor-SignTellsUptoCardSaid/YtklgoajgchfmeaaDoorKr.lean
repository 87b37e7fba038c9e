/- A part of the proof. -/
import Derived.Test.YtklgoajgchfmeaaDoorKq
set_option linter.unusedVariables false
set_option linter.unusedSimpArgs false
namespace Go.Proofs.YtklgoajgchfmeaaDoor
open Go.RowKit Go.Maps Go.ChangeShapes Go.Deep
set_option maxRecDepth 100000
structure Sq where
  q : Option Addr
  n : Nat
  c : Nat
structure RawK where
  t : Sq
  core : Int
  k : Sq
  on : Sq
  co : Sq
  af : Sq
  un : Sq
  g : Bool
  ke : Sq
  it : Sq
  d : Bool
abbrev RawK.cells (r : RawK) : List Value := [.slice r.t.q r.t.n r.t.c, .int .i64 r.core, .slice r.k.q r.k.n r.k.c, .slice r.on.q r.on.n r.on.c, .slice r.co.q r.co.n r.co.c, .slice r.af.q r.af.n r.af.c, .slice r.un.q r.un.n r.un.c, .bool r.g, .slice r.ke.q r.ke.n r.ke.c, .slice r.it.q r.it.n r.it.c, .bool r.d]
structure BlkIn (w : World) (r : RawK) (tabs : List Int) (L : List Ex) : Prop where
  tn : r.t.n = tabs.length
  tc : r.t.n ≤ r.t.c ∧ r.t.c ≤ 9223372036854775807
  t : IntsA w 0 w.heap.size r.t.q tabs
  cn : r.co.n = L.length
  cc : r.co.n ≤ r.co.c ∧ r.co.c ≤ 9223372036854775807
  co : ExL w r.co.q 0 L
  few : L.length * 104 ≤ 140737488355328
theorem BlkIn.on {w w' : World} {r : RawK} {tabs : List Int} {L : List Ex} (h : BlkIn w r tabs L) (hb : Below w.heap.size w w') : BlkIn w' r tabs L := by
  obtain ⟨h1, h2, h3, h4, h5, h6, h7⟩ := h
  refine ⟨h1, h2, fun i hi => ?_, h4, h5, ExL.ext hb _ _ _ h6, h7⟩
  obtain ⟨g, off, e, a1, a2, a3⟩ := h3 i hi
  exact ⟨g, off, e, a1, Nat.lt_of_lt_of_le a2 hb.size, fun j x hx => (hb.cell (p := ⟨g, _, none⟩) a2).trans (a3 j x hx)⟩
structure KB (W : World) (g : Nat) (cs : List Value) : Prop where
  lt : g < W.heap.size
  c : ∀ k u, cs[k]? = some u → W.cell? ⟨g, k, none⟩ = some u
theorem KB.on {W W' : World} {g : Nat} {cs : List Value} (h : KB W g cs) (hb : Below W.heap.size W W') : KB W' g cs := ⟨Nat.lt_of_lt_of_le h.lt hb.size, fun k u hu => (hb.cell (p := ⟨g, k, none⟩) h.lt).trans (h.c k u hu)⟩
theorem KB.new (W : World) (cs : List Value) (T : TypeId) : KB (W.alloc (.cells cs.toArray T)) W.heap.size cs := ⟨by simp, fun k u hu => by rw [Lib.cell_of_heap (heap_alloc_new W _), List.getElem?_toArray]; exact hu⟩
set_option maxHeartbeats 16000000 in
theorem isPart_any (r : RawK) (tabs : List Int) (L : List Ex) (set : Int) (w : World) (h : BlkIn w r tabs L) (hG : GE w) (hs : inR set = true) (hci : inR r.core = true) :
    Calls Tryd.prog 30 #[.agg r.cells.toArray, .int .i64 set] w fun e w' => e = .returned (.bool (partE tabs r.core L set)) ∧ Below w.heap.size w w' := by
  have H := Lib.hid h
  have HG := Lib.hid hG
  have K0 := KB.new w r.cells 43
  have B0 : Below w.heap.size w (w.alloc (.cells r.cells.toArray 43)) := ext_alloc (ext_refl _) _
  obtain ⟨⟨tq, tn, tc⟩, core, ⟨kq, kn, kc⟩, ⟨oq, on, oc⟩, ⟨cq, cn, cc⟩, ⟨aq, an, ac⟩, ⟨uq, un, uc⟩, gr, ⟨eq, en, ec⟩, ⟨iq, in_, ic⟩, di⟩ := r
  have htn : tn = tabs.length := h.tn
  obtain ⟨hs1, hs2⟩ := inR_iff.1 hs
  obtain ⟨hc1, hc2⟩ := inR_iff.1 hci
  simp only at hc1 hc2
  have HTN := Lib.hid htn
  obtain ⟨W, hW⟩ : ∃ W, W = w.alloc (.cells (RawK.cells ⟨⟨tq, tn, tc⟩, core, ⟨kq, kn, kc⟩, ⟨oq, on, oc⟩, ⟨cq, cn, cc⟩, ⟨aq, an, ac⟩, ⟨uq, un, uc⟩, gr, ⟨eq, en, ec⟩, ⟨iq, in_, ic⟩, di⟩).toArray 43) := ⟨_, rfl⟩
  rw [← hW] at K0 B0
  have HW := Lib.hid hW
  clear hW hG hs hci htn
  go_enter Tryd.func30, Tryd.ntmps30
  go_upto_region 1 with fail
  change Code.wp _ _ _ _ (w.alloc (.cells (RawK.cells ⟨⟨tq, tn, tc⟩, core, ⟨kq, kn, kc⟩, ⟨oq, on, oc⟩, ⟨cq, cn, cc⟩, ⟨aq, an, ac⟩, ⟨uq, un, uc⟩, gr, ⟨eq, en, ec⟩, ⟨iq, in_, ic⟩, di⟩).toArray 43))
  rw [← HW.out]
  clear HW
  obtain ⟨g, hg⟩ : ∃ g, g = w.heap.size := ⟨_, rfl⟩
  rw [← hg] at K0 ⊢
  have HB := Lib.hid B0
  have HK := Lib.hid K0
  obtain ⟨lt, kc_⟩ := K0
  have c0 := kc_ 0 _ rfl
  have c1 := kc_ 1 _ rfl
  have c4 := kc_ 4 _ rfl
  clear kc_ hg B0 h
  by_cases q1 : core < 1
  · have HP := Lib.hid (show partE tabs core L set = false by unfold partE; rw [decide_eq_false (by omega)]; simp)
    go_wp2_with fail
    refine bodyPost_ret (v := .bool false) (by simp [results, Tryd.results30, go_sem]) rfl ⟨by rw [HP.out], HB.out⟩
  by_cases q2 : 4 < core
  · have HP := Lib.hid (show partE tabs core L set = false by unfold partE; rw [decide_eq_false (show ¬ core ≤ 4 by omega)]; simp)
    go_wp2_with fail
    refine bodyPost_ret (v := .bool false) (by simp [results, Tryd.results30, go_sem]) rfl ⟨by rw [HP.out], HB.out⟩
  by_cases q3 : (tn : Int) < core
  · have HP := Lib.hid (show partE tabs core L set = false by unfold partE; rw [decide_eq_false (show ¬ core ≤ tabs.length by have := HTN.out; omega)]; simp)
    go_wp2_with fail
    refine bodyPost_ret (v := .bool false) (by simp [results, Tryd.results30, go_sem]) rfl ⟨by rw [HP.out], HB.out⟩
  by_cases q4 : set < 1
  · have HP := Lib.hid (show partE tabs core L set = false by unfold partE; rw [decide_eq_false (show ¬ 1 ≤ set by omega)]; simp)
    go_wp2_with fail
    refine bodyPost_ret (v := .bool false) (by simp [results, Tryd.results30, go_sem]) rfl ⟨by rw [HP.out], HB.out⟩
  obtain ⟨k, hk⟩ : ∃ k : Nat, core = k := ⟨core.toNat, by omega⟩
  subst hk
  obtain ⟨P, hP⟩ : ∃ P : Int, P = 2 ^ k := ⟨_, rfl⟩
  have hPw : wrap64 (2 ^ k) = P := by have := pow_in (rel := (k : Int)) (by omega); rw [hP]; simpa using this
  have HPE := Lib.hid (show (2 : Int) ^ (k : Int).toNat = P by rw [hP]; rfl)
  clear hP
  by_cases q5 : P ≤ set
  · have HP := Lib.hid (show partE tabs k L set = false by unfold partE; rw [HPE.out, decide_eq_false (show ¬ set < P by omega)]; simp)
    go_wp2_with fail
    refine bodyPost_ret (v := .bool false) (by simp [results, Tryd.results30, go_sem]) rfl ⟨by rw [HP.out], HB.out⟩
  have HPA := Lib.hid (show partE tabs k L set = L.all rightE by
    unfold partE
    rw [HPE.out, decide_eq_true (show (1 : Int) ≤ k by omega), decide_eq_true (show (k : Int) ≤ 4 by omega), decide_eq_true (show (k : Int) ≤ tabs.length by have := HTN.out; omega), decide_eq_true (show 1 ≤ set by omega), decide_eq_true (show set < P by omega)]
    simp)
  have HL := Lib.hid (show ExL W cq 0 L from ExL.ext HB.out _ _ _ H.out.co)
  have HCN := Lib.hid (show cn = L.length from H.out.cn)
  have hfew : cn ≤ 1353245080340 := by have h1 := H.out.few; have h2 := HCN.out; omega
  go_wp2_with fail
  clear c0 c1 c4 lt hPw q1 q2 q3 q4 q5 hc1 hc2 hs1 hs2
  go_loopw [37] (fun v37 wr => ∃ i : Nat, v37 = .int .i64 i ∧ i ≤ cn ∧ Hid (Below w.heap.size w wr ∧ Below W.heap.size W wr ∧ (L.take i).all rightE = true)) (fun v37 _ => ((cn : Int) - intOf v37).toNat)
  case atStart => exact ⟨0, rfl, Nat.zero_le _, HB.out, Below.refl _ _, rfl⟩
  case round =>
    obtain ⟨i, rfl, hi, HH⟩ := hrel
    obtain ⟨V, hV⟩ : ∃ V, V = wr := ⟨_, rfl⟩
    rw [← hV] at HH
    rw [← hV]
    clear hV
    have HBV := Lib.hid HH.out.1
    have HBW := Lib.hid HH.out.2.1
    have HA := Lib.hid HH.out.2.2
    clear HH
    by_cases hlt : i < cn
    · obtain ⟨y, hy⟩ : ∃ y, L[i]? = some y := ⟨_, List.getElem?_eq_getElem (by rw [← HCN.out]; exact hlt)⟩
      have hl_ := ExL.at_ (ExL.ext HBW.out _ _ _ HL.out) hy
      obtain ⟨g0, off0, cs0, hq0, hg0, hx0, hcell⟩ := hl_
      subst hq0
      have HX0 := Lib.hid hx0
      have HTA := Lib.hid (show (L.take (i + 1)).all rightE = rightE y by rw [take_snoc hy, List.all_append, HA.out]; simp)
      have HYM := Lib.hid (List.mem_of_getElem? hy)
      clear hy
      obtain ⟨op1, v1, rel1, col1, n1, s1, l1⟩ := y
      rw [ExM.iff] at hx0
      obtain ⟨-, qq0, cc0, rfl, -, -⟩ := hx0
      have f0 := hcell 0 _ rfl
      have f1 := hcell 1 _ rfl
      have f2 := hcell 2 _ rfl
      have f3 := hcell 3 _ rfl
      have f4 := hcell 4 _ rfl
      have f5 := hcell 5 _ rfl
      have f6 := hcell 6 _ rfl
      have f7 := hcell 7 _ rfl
      have f8 := hcell 8 _ rfl
      simp only [Nat.zero_add, Nat.add_zero] at f0 f1 f2 f3 f4 f5 f6 f7 f8
      clear hcell
      go_wp2_with fail
      have B1 : Below V.heap.size V (V.alloc (.cells (exCells op1 v1 rel1 col1 n1 s1 qq0 l1.length cc0).toArray 26)) := ext_alloc (ext_refl _) _
      refine (dright_any _ _ (V.alloc (.cells (exCells op1 v1 rel1 col1 n1 s1 qq0 l1.length cc0).toArray 26)) (ExM.ext B1 _ _ HX0.out) (HG.out.on (HBV.out.trans (B1.mono HBV.out.size)))).mono ?_
      rintro e X ⟨rfl, hbX⟩
      have HBX := Lib.hid (HBV.out.trans ((B1.trans (hbX.mono B1.size)).mono HBV.out.size))
      have HBWX := Lib.hid (HBW.out.trans ((B1.trans (hbX.mono B1.size)).mono HBW.out.size))
      clear B1 hbX f0 f1 f2 f3 f4 f5 f6 f7 f8 HX0
      cases hs : rightE (.mk op1 v1 rel1 col1 n1 s1 l1) with
      | false =>
        have HF := Lib.hid (show L.all rightE = false by rw [Bool.eq_false_iff]; intro h; have := List.all_eq_true.1 h _ HYM.out; rw [hs] at this; cases this)
        clear hs
        go_wp2_with fail
        refine bodyPost_ret (v := .bool false) (by simp [results, Tryd.results30, go_sem]) rfl ⟨by rw [HPA.out, HF.out], HBX.out⟩
      | true =>
        rw [hs] at HTA
        clear hs
        go_wp2_with fail
        go_roundw
        case rel => exact ⟨i + 1, by go_num, hlt, HBX.out, HBWX.out, HTA.out⟩
        case measure => simp [intOf] <;> omega
    · have HE := Lib.hid (show L.take i = L by rw [show i = L.length by rw [← HCN.out]; omega, List.take_length])
      rw [HE.out] at HA
      go_wp2_with fail
      refine bodyPost_ret (v := .bool true) (by simp [results, Tryd.results30, go_sem]) rfl ⟨by rw [HPA.out, HA.out], HBV.out⟩
open Go.RowKit Go.Maps Go.ChangeShapes Go.Deep
set_option maxRecDepth 100000
set_option maxHeartbeats 4000000 in
theorem ones64_any (k : Nat) (hk : k < 16) (w : World) : Calls Tryd.prog 58 #[.int .u64 (k : Int)] w fun e w' => e = .returned (.int .i64 (rkN k 4 : Int)) ∧ Below w.heap.size w w' := by
  have hc : k = 0 ∨ k = 1 ∨ k = 2 ∨ k = 3 ∨ k = 4 ∨ k = 5 ∨ k = 6 ∨ k = 7 ∨ k = 8 ∨ k = 9 ∨ k = 10 ∨ k = 11 ∨ k = 12 ∨ k = 13 ∨ k = 14 ∨ k = 15 := by omega
  clear hk
  rcases hc with rfl | rfl | rfl | rfl | rfl | rfl | rfl | rfl | rfl | rfl | rfl | rfl | rfl | rfl | rfl | rfl
  all_goals
    go_enter Tryd.func58, Tryd.ntmps58
    go_wp2_with fail
    go_ret
    exact ⟨by kernel_rfl, Below.refl _ _⟩
set_option maxHeartbeats 4000000 in
theorem ones_any (k : Nat) (hk : k < 16) (w : World) : Calls Tryd.prog 45 #[.int .u64 (k : Int)] w fun e w' => e = .returned (.int .i64 (rkN k 4 : Int)) ∧ Below w.heap.size w w' := by
  go_enter Tryd.func45, Tryd.ntmps45
  go_wp2_with fail
  refine (ones64_any k hk w).mono ?_
  rintro e X ⟨rfl, hb⟩
  go_wp2_with fail
  refine bodyPost_ret (v := .int .i64 (rkN k 4 : Int)) (by simp [results, Tryd.results45, go_sem]) rfl ⟨rfl, hb⟩
theorem bits_and_nat {a b : Nat} (ha : a < 65536) (hb : b < 65536) : bits .and .i64 (a : Int) (b : Int) = ((a &&& b : Nat) : Int) := by
  have h : a &&& b ≤ a := Nat.and_le_left
  change IntKind.wrap .i64 ((BitVec.ofInt 64 (a : Int) &&& BitVec.ofInt 64 (b : Int)).toNat : Int) = _
  rw [BitVec.ofInt_natCast, BitVec.ofInt_natCast, BitVec.toNat_and, BitVec.toNat_ofNat, BitVec.toNat_ofNat, Nat.mod_eq_of_lt (by omega), Nat.mod_eq_of_lt (by omega)]
  rw [IntKind.wrap_i64]
  try unfold wrap64
  omega
theorem ranks_all : ∀ S : Fin 16, ∀ r : Fin 16, rkN (S.val &&& (2 ^ r.val - 1)) 4 = rkN S.val r.val ∧ S.val &&& (2 ^ r.val - 1) < 16 := by decide
open Go.RowKit Go.Maps Go.ChangeShapes Go.Deep
set_option maxRecDepth 100000
structure NumS (W : World) (A B S : Nat) : Prop where
  lA : A < W.heap.size
  lB : B < W.heap.size
  cA : W.cell? ⟨A, 0, none⟩ = some (.int .i64 (S : Int))
  cB : W.cell? ⟨B, 0, none⟩ = some (.func (.func 44) #[] #[.pointer (some ⟨A, 0, none⟩), .pointer (some ⟨B, 0, none⟩)])
theorem NumS.on {W W' : World} {A B S : Nat} (h : NumS W A B S) (hb : Below W.heap.size W W') : NumS W' A B S :=
  ⟨Nat.lt_of_lt_of_le h.lA hb.size, Nat.lt_of_lt_of_le h.lB hb.size, (hb.cell (p := ⟨A, 0, none⟩) h.lA).trans h.cA, (hb.cell (p := ⟨B, 0, none⟩) h.lB).trans h.cB⟩
theorem Tryd.enterNumber (vals : Array Value) (w : World) : (callFunc 44 vals).run Tryd.prog w = .ok (.enter 44 vals) w := by kernel_rfl
def NumC (S A B : Nat) (x : Ex) : Prop := ∀ (w : World) (cs : List Value), ExM w x cs → NumS w A B S → Calls Tryd.prog 44 #[.agg cs.toArray, .pointer (some ⟨A, 0, none⟩), .pointer (some ⟨B, 0, none⟩)] w fun e w' => (∃ cs' : List Value, e = .returned (.agg cs'.toArray) ∧ ExMP w' (fun g => w.heap.size ≤ g) (x.rank S) cs') ∧ Below w.heap.size w w'
theorem NQ.start2 {w W X : World} {g : Nat} {r : RawE} {v : Value} {L : List Ex} {q : Option Addr} {len c : Nat} (hv : v = .slice q len c) (b : Below w.heap.size w W) (x1 : XB W g r) (x2 : XB W (g + 1) rawZ) (gw : g = w.heap.size) (zw : g + 2 ≤ W.heap.size) (hb : Below W.heap.size W X)
    (o : OwnX X W.heap.size (fun k => W.heap.size ≤ k) v L) : NQ w (X.setCell ⟨g, 8, none⟩ (.slice q len c)) g ⟨r.op, r.v, r.rel, r.col, r.n, r.s, q, len, c⟩ v L := by
  have ho : Out (fun k => k = g) X (X.setCell ⟨g, 8, none⟩ (.slice q len c)) := Out.set ⟨g, 8, none⟩ _ rfl
  have b1 := b.trans (hb.mono b.size)
  have o := o.weaken (b' := g + 2) (Q := fun k => g + 2 ≤ k) zw (fun k hk _ => Nat.le_trans zw hk)
  refine ⟨b1.trans (ho.below b1.size (fun k hk => by rw [hk]; omega)), (x1.on hb).cell8 q len c, (x2.on hb).out ho (by omega), gw, o.outs ho (fun k hk e => ?_) (fun k hk e => ?_)⟩
  · have := (o.lt k e).1; omega
  · omega
theorem wrap_pows : ∀ R : Fin 16, IntKind.i64.wrap ((2 : Int) ^ R.val) = ((2 ^ R.val : Nat) : Int) ∧ IntKind.i64.wrap (((2 ^ R.val : Nat) : Int) - 1) = ((2 ^ R.val - 1 : Nat) : Int) ∧ 2 ^ R.val - 1 < 65536 := by decide
theorem wrap_u : ∀ k : Fin 16, IntKind.u64.wrap (k.val : Int) = (k.val : Int) := by decide
theorem num_arg {S R : Nat} (hS : S < 16) (hR : R < 16) : IntKind.u64.wrap (bits .and .i64 (S : Int) (IntKind.i64.wrap (IntKind.i64.wrap (2 ^ R) - 1))) = ((S &&& (2 ^ R - 1) : Nat) : Int) := by
  obtain ⟨h1, h2, h3⟩ := wrap_pows ⟨R, hR⟩
  have h4 := (ranks_all ⟨S, hS⟩ ⟨R, hR⟩).2
  rw [h1, h2, bits_and_nat (by omega) h3]
  exact wrap_u ⟨_, h4⟩
set_option maxHeartbeats 8000000 in
theorem numC_mk (S A B : Nat) (hS : S < 16) (op : Int) (v : Val) (rel col n : Int) (s : ByteArray) (l : List Ex) (hh : headOk op v rel col n s l.length = true) (IH : ∀ y ∈ l, NumC S A B y) : NumC S A B (.mk op v rel col n s l) := by
  intro w cs hx hN
  have HI := Lib.hid IH
  have HNS := Lib.hid hN
  have hlm := head_two hh
  have hrel : 0 ≤ rel ∧ rel ≤ 15 := by
    have h := (head_shape hh).2
    rcases h with ⟨-, h, -⟩ | ⟨h2, -⟩ | ⟨-, -, h, -⟩ | ⟨-, -, -, h, -⟩
    · omega
    · exact rel_ok hh h2
    · omega
    · omega
  have HRK := Lib.hid (show (Ex.mk op v rel col n s l).rank S = .mk op v (rkN S rel.toNat : Int) col n s (l.map (Ex.rank S)) by
    rw [Ex.rank, rankL_map]
    by_cases h2 : op = 2
    · rw [if_pos h2]
    · rw [if_neg h2]
      have h0 : rel = 0 := by
        have h := (head_shape hh).2
        rcases h with ⟨-, h, -⟩ | ⟨h2', -⟩ | ⟨-, -, h, -⟩ | ⟨-, -, -, h, -⟩
        · exact h
        · exact absurd h2' h2
        · exact h
        · exact h
      rw [h0]; rfl)
  rw [ExM.iff] at hx
  obtain ⟨hv, q, c, rfl, -, hl⟩ := hx
  have HV := Lib.hid hv
  have HL := Lib.hid hl
  obtain ⟨len, hlen⟩ : ∃ len, len = l.length := ⟨_, rfl⟩
  rw [← hlen] at hlm ⊢
  have HLEN := Lib.hid hlen
  obtain ⟨R, hR⟩ : ∃ R : Nat, rel = R := ⟨rel.toNat, by omega⟩
  subst hR
  clear hv hl IH hlen hN hh
  obtain ⟨W1, hW1⟩ : ∃ W, W = w.alloc (.cells (exCells op v R col n s q len c).toArray 26) := ⟨_, rfl⟩
  have E0 : XB W1 w.heap.size ⟨op, v, R, col, n, s, q, len, c⟩ := by rw [hW1]; exact XB.new w ⟨op, v, R, col, n, s, q, len, c⟩ _
  have z1 : W1.heap.size = w.heap.size + 1 := by rw [hW1]; simp
  obtain ⟨W, hW⟩ : ∃ W, W = W1.alloc (.cells rawZ.cells.toArray 26) := ⟨_, rfl⟩
  have b1 : Below W1.heap.size W1 W := by rw [hW]; (repeat (first | exact ext_refl _ | assumption | (refine ext_alloc ?_ _) | (refine ext_drewN ?_ _) | refine ext_drew ?_ | (refine ext_set (by first | (simp; done) | (simp; omega)) _ ?_) | (refine ext_trans ?_ (by assumption))))
  have E1 := E0.on b1
  have E2 : XB W (w.heap.size + 1) rawZ := by rw [hW, ← z1]; exact XB.new W1 rawZ _
  have b : Below w.heap.size w W := by rw [hW, hW1]; (repeat (first | exact ext_refl _ | assumption | (refine ext_alloc ?_ _) | (refine ext_drewN ?_ _) | refine ext_drew ?_ | (refine ext_set (by first | (simp; done) | (simp; omega)) _ ?_) | (refine ext_trans ?_ (by assumption))))
  have z2 : W.heap.size = w.heap.size + 2 := by rw [hW]; simp [z1]
  have HWW := Lib.hid (show W = (w.alloc (.cells (exCells op v R col n s q len c).toArray 26)).alloc (.cells rawZ.cells.toArray 26) by rw [hW, hW1])
  clear hW hW1 E0 z1 b1
  go_enter Tryd.func44, Tryd.ntmps44
  go_upto_region 1 with fail
  change Code.wp _ _ _ _ ((w.alloc (.cells (exCells op v R col n s q len c).toArray 26)).alloc (.cells rawZ.cells.toArray 26))
  rw [← HWW.out]
  clear HWW
  obtain ⟨g, hg⟩ : ∃ g, g = w.heap.size := ⟨_, rfl⟩
  have HGW := Lib.hid hg
  rw [← hg] at E1 E2 z2 ⊢
  have HB := Lib.hid b
  have HE1 := Lib.hid E1
  have HE2 := Lib.hid E2
  have HZ2 := Lib.hid z2
  have NW := HNS.out.on b
  clear hg b z2 E2
  have lt := E1.lt
  have c4 := E1.c 4 _ rfl
  have cA := NW.cA
  have lA := NW.lA
  clear E1
  simp only at c4
  have r4 := fun (x : After W) => (x.cell g 4 lt).trans c4
  have rA := fun (x : After W) => (x.cell A 0 lA).trans cA
  have hfin := ranks_all ⟨S, hS⟩ ⟨R, by omega⟩
  have hea := num_arg hS (show R < 16 by omega)
  obtain ⟨hf1, hf2⟩ := hfin
  simp only at hf1 hf2
  obtain ⟨M, hM⟩ : ∃ M, M = S &&& (2 ^ R - 1) := ⟨_, rfl⟩
  rw [← hM] at hea hf1 hf2
  have HON := Lib.hid (fun (x : After W) => calls_after (ones_any M hf2 x.W))
  have HEA := Lib.hid hea
  rw [hf1] at HON
  obtain ⟨RK, hRK⟩ : ∃ K, K = rkN S R := ⟨_, rfl⟩
  rw [← hRK] at HON
  have HRR := Lib.hid hRK
  clear hM hf1 hf2 hea hRK
  have is := After.some W
  refine wp_region_after_tail 9 (by kernel_rfl) (by kernel_rfl) ?_
  simp only [List.take_succ_cons, List.take_zero, List.drop_succ_cons, List.drop_zero]
  repeat (quiet_step (fail))
  rw [HEA.out]
  repeat (quiet_step ((go_at_call 45; with_reducible exact HON.out _)))
  refine wpQuiet_nil ?_
  intro Wq hw
  have hbq : Below W.heap.size W Wq := by obtain ⟨x, rfl⟩ := hw; exact x.below
  have HXq := Lib.hid (HE1.out.on hbq)
  have HYq := Lib.hid (HE2.out.on hbq)
  have HBq := Lib.hid (HB.out.trans (hbq.mono HB.out.size))
  have HNq := Lib.hid (NW.on hbq)
  have HZq := Lib.hid (show g + 2 ≤ Wq.heap.size by have h1 := HZ2.out; have h2 := hbq.size; omega)
  have ltq := HXq.out.lt
  have fq := HXq.out.fz
  have c4q := HXq.out.c 4 _ rfl
  simp only at c4q
  clear is hw hbq r4 rA lt c4 cA lA HON HEA HE1 HE2 HB HZ2 NW
  go_upto_region 2 with fail
  have ho4 : Out (fun k => k = g) Wq (Wq.setCell ⟨g, 4, none⟩ (.int .i64 (RK : Int))) := Out.set ⟨g, 4, none⟩ _ rfl
  have hX4 := XB.set1 (k := 4) (u := .int .i64 (RK : Int)) (r' := ⟨op, v, RK, col, n, s, q, len, c⟩) HXq.out (by decide) rfl
  obtain ⟨N1, hN1⟩ : ∃ N, N = Wq.setCell ⟨g, 4, none⟩ (.int .i64 (RK : Int)) := ⟨_, rfl⟩
  rw [← hN1] at ho4 hX4 ⊢
  have HE1 := Lib.hid hX4
  have HE2 := Lib.hid (HYq.out.out ho4 (by omega))
  have HB := Lib.hid (HBq.out.trans (ho4.below HBq.out.size (fun k hk => by rw [hk]; have := HGW.out; omega)))
  have HZ := Lib.hid (show g + 2 ≤ N1.heap.size from Nat.le_trans HZq.out ho4.size)
  have HNS1 := Lib.hid (HNS.out.on HB.out)
  clear hN1 ho4 HXq HYq HBq HNq HZq ltq fq c4q hX4
  have lt := HE1.out.lt
  have c8 := HE1.out.c 8 _ rfl
  have cB := HNS1.out.cB
  have lB := HNS1.out.lB
  simp only at c8
  have HC : Calls Tryd.prog 38 #[.slice q len c, .func (.func 44) #[] #[.pointer (some ⟨A, 0, none⟩), .pointer (some ⟨B, 0, none⟩)]] N1 fun e w' => (∃ ql cl, e = .returned (.slice ql len cl) ∧ OwnX w' N1.heap.size (fun k => N1.heap.size ≤ k) (.slice ql len cl) (l.map (Ex.rank S))) ∧ Below N1.heap.size N1 w' := by
    have h := changed_any 44 [.pointer (some ⟨A, 0, none⟩), .pointer (some ⟨B, 0, none⟩)] (Ex.rank S) l q c N1 (ExL.ext HB.out _ _ _ HL.out) (by rw [← HLEN.out]; omega) (fun y hy W' cs hb hM => HI.out y hy W' cs hM (HNS1.out.on hb)) Tryd.enterNumber
    rw [show l.length = len from HLEN.out.symm] at h
    refine h.mono ?_
    rintro e W' ⟨⟨vl, rfl, hO⟩, hb⟩
    obtain ⟨ql, cl, rfl, -, -, -⟩ := hO.toL
    rw [List.length_map, show l.length = len from HLEN.out.symm] at hO ⊢
    exact ⟨⟨ql, cl, rfl, hO⟩, hb⟩
  have HC := Lib.hid HC
  go_upto_region 3 with (go_at_call 38; (refine HC.out.mono ?_; rintro e X ⟨⟨ql, cl, rfl, hO⟩, hbX⟩; have HO := Lib.hid hO; have HBX := Lib.hid hbX; have HE1X := HE1.out.on hbX; have hgX := HE1X.lt; have fgX := HE1X.fz; have e8 := HE1X.c 8 _ rfl; simp only at e8; clear hO hbX HE1X lt c8 cB lB))
  have hQ := NQ.start2 rfl HB.out HE1.out HE2.out HGW.out HZ.out HBX.out HO.out
  simp only at hQ
  obtain ⟨N, hN⟩ : ∃ N, N = X.setCell ⟨g, 8, none⟩ (.slice ql len cl) := ⟨_, rfl⟩
  rw [← hN] at hQ ⊢
  have HQ := Lib.hid hQ
  clear hN hgX fgX e8 HO HBX HC HE1 HE2 HB HZ HI HNS1
  obtain ⟨lt, cc, fz⟩ := hQ.x1
  have c0 := cc 0 _ rfl
  have c1 := cc 1 _ rfl
  have c2 := cc 2 _ rfl
  have c3 := cc 3 _ rfl
  have c4 := cc 4 _ rfl
  have c5 := cc 5 _ rfl
  have c6 := cc 6 _ rfl
  have c7 := cc 7 _ rfl
  have c8 := cc 8 _ rfl
  simp only at c0 c1 c2 c3 c4 c5 c6 c7 c8
  clear cc hQ
  obtain ⟨ltR, cR, fR⟩ := HQ.out.x2
  have d0 := cR 0 _ rfl
  have d1 := cR 1 _ rfl
  have d2 := cR 2 _ rfl
  have d3 := cR 3 _ rfl
  have d4 := cR 4 _ rfl
  have d5 := cR 5 _ rfl
  have d6 := cR 6 _ rfl
  have d7 := cR 7 _ rfl
  have d8 := cR 8 _ rfl
  clear cR
  go_wp2_with fail
  change bodyPost _ _ _ _ _ (setE N (g + 1) 0 ⟨op, v, RK, col, n, s, ql, len, cl⟩)
  obtain ⟨hbQ, ⟨-, cQ, -⟩, hP⟩ := HQ.out.done HV.out rfl (by rw [List.length_map]; exact HLEN.out)
  obtain ⟨Q, hQQ⟩ : ∃ Q, Q = setE N (g + 1) 0 ⟨op, v, RK, col, n, s, ql, len, cl⟩ := ⟨_, rfl⟩
  rw [← hQQ] at hbQ cQ hP
  rw [← hQQ]
  have q0 := cQ 0 _ rfl
  have q1 := cQ 1 _ rfl
  have q2 := cQ 2 _ rfl
  have q3 := cQ 3 _ rfl
  have q4 := cQ 4 _ rfl
  have q5 := cQ 5 _ rfl
  have q6 := cQ 6 _ rfl
  have q7 := cQ 7 _ rfl
  have q8 := cQ 8 _ rfl
  clear hQQ cQ
  simp only at q0 q1 q2 q3 q4 q5 q6 q7 q8
  refine bodyPost_ret (v := .agg (exCells op v RK col n s ql len cl).toArray) (by simp [results, Tryd.results44, go_sem, q0, q1, q2, q3, q4, q5, q6, q7, q8]) rfl ⟨⟨_, rfl, ?_⟩, hbQ⟩
  rw [HRK.out, show ((R : Int).toNat) = R from rfl, ← HRR.out]
  exact hP
theorem numC_any (S A B : Nat) (hS : S < 16) : ∀ (k : Nat) (x : Ex), x.deep ≤ k → x.okAll = true → NumC S A B x
  | 0, x, h, _ => absurd (deep_pos x) (by omega)
  | k + 1, .mk op v rel col n s l, h, ho => by
    rw [Ex.okAll, Bool.and_eq_true] at ho
    exact numC_mk S A B hS op v rel col n s l ho.1 fun y hy => numC_any S A B hS k y (by rw [Ex.deep] at h; have := deepL_of_mem hy; omega) (by obtain ⟨i, hi, he⟩ := List.getElem_of_mem hy; exact okL_all ho.2 (i := i) (by rw [List.getElem?_eq_getElem hi, he]))
open Go.RowKit Go.Maps Go.ChangeShapes Go.Deep
set_option maxRecDepth 100000
theorem Tryd.mkFuncS (fn : Fn) (first cap : Array Value) (w : World) : (Instr.makeFunc fn first cap).run Tryd.prog w = .ok (.func fn first cap) w := rfl
theorem inSet_ok {set : Int} {x : Ex} (h : inSet set x = true) : x.okAll = true := (right_iff8.1 (inSet_right h)).1
theorem step_append_x {w : World} {ops : Array Oper} {o : Oper} {a : Act} {KK : Act → World → Prop} {Q : Exit → Act → World → Prop} {R : Prop} (hgd : o.guard = none) (s x : Operand)
    (ho : o.op = .call { callee := .builtin .append, args := #[s, x], argTypes := #[24, 24] }) (b : Nat) (P : Nat → Prop) (v : Value) (L : List Ex) (hs : a.eval s = v) (hL : OwnX w b P v L) (nn : Nat) (hnn : nn = L.length)
    (r : RawE) (y : Ex) (p : Option Addr) (cp lo hi : Nat) (hx : a.eval x = .slice p 1 cp) (hR : ArrA lo hi p 9 [r] (fun g o r => ∀ (k : Nat) u, r.cells[k]? = some u → w.cell? ⟨g, o + k, none⟩ = some u))
    (hy : ExMP w (fun k => P k ∧ v.ownBlock ≠ some k) y r.cells) (hn : (nn + 1) * 104 ≤ 140737488355328) (hb : b ≤ w.heap.size)
    (h : ∀ q c w', OwnX w' b P (.slice q (nn + 1) c) (L ++ [y]) → Below b w w' → Out (fun k => v.ownBlock = some k) w w' → KK (a.put o.dst (.slice q (nn + 1) c)) w') : if Region.wanted o (yielded ops a.tmps) = true then Oper.wp Tryd.prog o a w KK Q else R := by
  subst hnn
  obtain ⟨K, h1, h2, h3⟩ := hL
  obtain ⟨v', w', hr, h4, h5, h6, h7⟩ := run_append_flat w 24 26 o.type Tryd.underlying24 _ 104 Tryd.infoExpr8 rfl (by decide) RawE.cells_len RawE.cells_one b v K h1 p 1 cp [r] rfl lo hi hR (by rw [h2]; simp only [List.length_cons, List.length_nil]; unfold maxLen; omega) (by rw [h2]; simpa using hn) hb
  obtain ⟨q, c, e, -⟩ := OwnF.arr RawE.cells_len h4
  have el : (K ++ [r]).length = L.length + 1 := by simp [h2]
  rw [el] at e
  subst e
  have hw : Region.wanted o (yielded ops a.tmps) = true := by simp [Region.wanted, hgd]
  rw [if_pos hw]
  unfold Oper.wp execOp
  simp only [ho, resolve, invoke, builtin, Sem.run_bind, Sem.run_pure, Result.andThen_ok, List.map_toArray, List.map_cons, List.map_nil, hs, hx, hr]
  refine (h q c w' ⟨K ++ [r], h4, by simp [h2], fun j r0 z hr0 hz => ?_⟩ h5 h6)
  have hP : ∀ (y : Ex) (cs : List Value), ExMP w (fun k => P k ∧ v.ownBlock ≠ some k) y cs → ExMP w' (fun k => P k ∧ (Value.slice q (L.length + 1) c).ownBlock ≠ some k) y cs := fun y cs hy => ExMP.on h6.size (fun k hk hkw => h6.block k hkw hk.2) (fun k hk hkw => ⟨hk.1, fun e => by
    rcases h7 with h7 | h7
    · rw [h7] at e; exact hk.2 e
    · rw [h7] at e; cases e; exact Nat.lt_irrefl _ hkw⟩) y cs hy
  by_cases hj : j < K.length
  · rw [List.getElem?_append_left hj] at hr0
    rw [List.getElem?_append_left (by omega)] at hz
    exact hP _ _ (h3 j r0 z hr0 hz)
  · have hjk : j = K.length := by
      have := (List.getElem?_eq_some_iff.1 hr0).1
      simp at this
      omega
    rw [hjk, List.getElem?_append_right (Nat.le_refl _), Nat.sub_self] at hr0
    rw [hjk, h2, List.getElem?_append_right (Nat.le_refl _), Nat.sub_self] at hz
    simp at hr0 hz
    subst hr0 hz
    exact hP _ _ hy
theorem renum_k1 {D Y : World} {X : Nat} {v : Value} {M : List Ex} {Z : Ex} {cs : List Value} {o : Obj} {P : Nat → Prop} (h1 : X ≤ D.heap.size) (h2 : OwnX D X P v M) (h3 : ExMP Y (fun k => D.heap.size ≤ k) Z cs) : ExMP (Y.alloc o) (fun k => X ≤ k ∧ v.ownBlock ≠ some k) Z cs := by
  refine ExMP.on (by simp) (fun k _ hk => (ext_alloc (ext_refl Y) _).block k hk) (fun k hk _ => ⟨?_, fun e => ?_⟩) _ _ h3
  · have hk : D.heap.size ≤ k := hk
    omega
  · have h1 := (h2.lt k e).2
    have hk : D.heap.size ≤ k := hk
    omega
set_option maxHeartbeats 16000000 in
theorem renum_any (L : List Ex) (q : Option Addr) (c S : Nat) (w : World) (hL : ExL w q 0 L) (hc : L.length ≤ c ∧ c ≤ 9223372036854775807) (hn : L.length * 104 ≤ 140737488355328) (hG : GE w) (hS : S < 16) :
    Calls Tryd.prog 31 #[.slice q L.length c, .int .i64 (S : Int)] w fun e w' => (∃ v, e = .returned v ∧ OwnX w' w.heap.size (fun k => w.heap.size ≤ k) v (rankedE S L)) ∧ Below w.heap.size w w' := by
  have HL := Lib.hid hL
  have HG := Lib.hid hG
  have HSS := Lib.hid hS
  obtain ⟨len, hlen⟩ : ∃ len, len = L.length := ⟨_, rfl⟩
  rw [← hlen] at hn hc ⊢
  have HLEN := Lib.hid hlen
  have HRE := Lib.hid (within_is (S : Int) L)
  have hmf := Tryd.mkFuncS
  clear hL hG hlen hS
  go_enter Tryd.func31, Tryd.ntmps31
  go_upto_region 4 with fail
  obtain ⟨W, hW⟩ : ∃ W, W = (w.alloc (.cells #[.int .i64 (S : Int)] 3)).alloc (.cells #[.func (.func 44) #[] #[.pointer (some ⟨w.heap.size, 0, none⟩), .pointer (some ⟨w.heap.size + 1, 0, none⟩)]] 52) := ⟨_, rfl⟩
  have N0 : NumS W w.heap.size (w.heap.size + 1) S := by rw [hW]; exact ⟨by simp, by simp, by simp [go_sem], by simp [go_sem]⟩
  have b : Below w.heap.size w W := by rw [hW]; (repeat (first | exact ext_refl _ | assumption | (refine ext_alloc ?_ _) | (refine ext_drewN ?_ _) | refine ext_drew ?_ | (refine ext_set (by first | (simp; done) | (simp; omega)) _ ?_) | (refine ext_trans ?_ (by assumption))))
  rw [← hW]
  have HB := Lib.hid b
  have HN0 := Lib.hid N0
  clear hW b
  obtain ⟨A, hA⟩ : ∃ A, A = w.heap.size := ⟨_, rfl⟩
  obtain ⟨B, hBB⟩ : ∃ B, B = w.heap.size + 1 := ⟨_, rfl⟩
  rw [← hBB, ← hA] at N0 HN0 ⊢
  have HAB := Lib.hid (And.intro hA hBB)
  have cA := N0.cA
  have lA := N0.lA
  clear hA hBB N0 hmf
  have HWI := Lib.hid (dwithin_any L q c (S : Int) W (ExL.ext HB.out _ _ _ HL.out) (by rw [← HLEN.out]; exact hn) (HG.out.on HB.out) (by have := HSS.out; rw [inR_iff]; omega))
  rw [← HLEN.out] at HWI
  go_wp2_with fail
  refine HWI.out.mono ?_
  rintro e X ⟨⟨vi, rfl, hI⟩, hbX⟩
  have HBX := Lib.hid (HB.out.trans (hbX.mono HB.out.size))
  have HNX := Lib.hid (HN0.out.on hbX)
  have hIA := OwnF.arr nCell_len hI
  obtain ⟨qi, ci, rfl, hic1, hic2, -, hIA⟩ := hIA
  have HIA := Lib.hid hIA
  obtain ⟨ni, hni⟩ : ∃ n, n = (withinE (S : Int) L).length := ⟨_, rfl⟩
  rw [List.length_map, ← hni] at hic1 ⊢
  have hnl : ni ≤ len := by
    rw [hni, HLEN.out]
    refine Nat.le_trans (List.length_filter_le _ _) ?_
    simp
  have HNI := Lib.hid hni
  clear hI hbX hni HWI cA lA HN0 HB
  go_wp2_with fail
  go_loopw [6, 14] (fun v6 v14 wr => ∃ i : Nat, v14 = .int .i64 i ∧ i ≤ ni ∧ Hid (OwnX wr X.heap.size (fun k => X.heap.size ≤ k) v6 (((withinE (S : Int) L).take i).map fun i => (L.getD i (.mk 0 zeroVal 0 0 0 ⟨#[]⟩ [])).rank S) ∧ Below X.heap.size X wr)) (fun _ v14 _ => ((ni : Int) - intOf v14).toNat)
  case atStart => exact ⟨0, rfl, Nat.zero_le _, OwnX.nil _ _ _, Below.refl _ _⟩
  case round =>
    obtain ⟨i, rfl, hi, HH⟩ := hrel
    obtain ⟨V, hV⟩ : ∃ V, V = wr := ⟨_, rfl⟩
    rw [← hV] at HH
    rw [← hV]
    clear hV
    have HO := Lib.hid HH.out.1
    have HBV := Lib.hid HH.out.2
    clear HH
    by_cases hlt : i < ni
    · obtain ⟨j, hj⟩ : ∃ j, (withinE (S : Int) L)[i]? = some j := ⟨_, List.getElem?_eq_getElem (by rw [← HNI.out]; exact hlt)⟩
      have hjm := List.mem_of_getElem? hj
      have hjl := within_lt (S : Int) L j hjm
      have hjin : inSet (S : Int) (L.getD j (.mk 0 zeroVal 0 0 0 ⟨#[]⟩ [])) = true := (List.mem_filter.1 hjm).2
      have hy : L[j]? = some (L[j]'hjl) := List.getElem?_eq_getElem hjl
      have hgd : L.getD j (.mk 0 zeroVal 0 0 0 ⟨#[]⟩ []) = L[j]'hjl := by rw [List.getD_eq_getElem?_getD, hy]; rfl
      have HT := Lib.hid (show ((withinE (S : Int) L).take (i + 1)).map (fun i => (L.getD i (.mk 0 zeroVal 0 0 0 ⟨#[]⟩ [])).rank S) = ((withinE (S : Int) L).take i).map (fun i => (L.getD i (.mk 0 zeroVal 0 0 0 ⟨#[]⟩ [])).rank S) ++ [(L[j]'hjl).rank S] by rw [take_snoc hj, List.map_append, List.map_cons, hgd]; rfl)
      have HTL := Lib.hid (show (((withinE (S : Int) L).take i).map fun i => (L.getD i (.mk 0 zeroVal 0 0 0 ⟨#[]⟩ [])).rank S).length = i by rw [List.length_map, List.length_take]; have := HNI.out; omega)
      obtain ⟨M, hM⟩ : ∃ M, M = ((withinE (S : Int) L).take i).map fun i => (L.getD i (.mk 0 zeroVal 0 0 0 ⟨#[]⟩ [])).rank S := ⟨_, rfl⟩
      rw [← hM] at HO HT HTL
      rw [hgd] at hjin
      obtain ⟨y, hye⟩ : ∃ y, y = L[j]'hjl := ⟨_, rfl⟩
      rw [← hye] at hy HT hjin
      obtain ⟨gi, oi, hqi, hgi1, hgi2, hicell⟩ := HIA.out i (by rw [List.length_map, ← HNI.out]; exact hlt)
      have hci := hicell i (j : Int) (by rw [List.getElem?_map, hj]; rfl) 0 _ rfl
      have hl_ := ExL.at_ (ExL.ext HBX.out _ _ _ HL.out) hy
      obtain ⟨g0, off0, cs0, hq0, hg0, hx0, hcell⟩ := hl_
      have HX0 := Lib.hid (ExM.ext HBV.out _ _ hx0)
      have HOK := Lib.hid (inSet_ok hjin)
      have HNV := Lib.hid (HNX.out.on HBV.out)
      subst hqi hq0
      clear hM hy hye hicell hjm hgd hj hjin
      obtain ⟨op1, v1, rel1, col1, n1, s1, l1⟩ := y
      rw [ExM.iff] at hx0
      obtain ⟨-, qq0, cc0, rfl, -, -⟩ := hx0
      have hSX : ∀ W' : World, Below X.heap.size X W' → W'.cell? ⟨B, 0, none⟩ = some (.func (.func 44) #[] #[.pointer (some ⟨A, 0, none⟩), .pointer (some ⟨B, 0, none⟩)]) ∧ W'.cell? ⟨g0, off0 + j * 9, none⟩ = some (.int .i64 op1) ∧ W'.cell? ⟨g0, off0 + j * 9 + 1, none⟩ = some (.int .i64 v1.k) ∧ W'.cell? ⟨g0, off0 + j * 9 + 2, none⟩ = some (.int .i64 v1.n) ∧ W'.cell? ⟨g0, off0 + j * 9 + 3, none⟩ = some (.string v1.s) ∧ W'.cell? ⟨g0, off0 + j * 9 + 4, none⟩ = some (.int .i64 rel1) ∧ W'.cell? ⟨g0, off0 + j * 9 + 5, none⟩ = some (.int .i64 col1) ∧ W'.cell? ⟨g0, off0 + j * 9 + 6, none⟩ = some (.int .i64 n1) ∧ W'.cell? ⟨g0, off0 + j * 9 + 7, none⟩ = some (.string s1) ∧ W'.cell? ⟨g0, off0 + j * 9 + 8, none⟩ = some (.slice qq0 l1.length cc0) := fun W' hb => by
        have e := fun k u hu => (hb.cell (p := ⟨g0, off0 + (0 + j) * 9 + k, none⟩) hg0).trans (hcell k u hu)
        have e0 := e 0 _ rfl
        have e1 := e 1 _ rfl
        have e2 := e 2 _ rfl
        have e3 := e 3 _ rfl
        have e4 := e 4 _ rfl
        have e5 := e 5 _ rfl
        have e6 := e 6 _ rfl
        have e7 := e 7 _ rfl
        have e8 := e 8 _ rfl
        simp only [Nat.zero_add, Nat.add_zero] at e0 e1 e2 e3 e4 e5 e6 e7 e8
        exact ⟨(HNX.out.on hb).cB, e0, e1, e2, e3, e4, e5, e6, e7, e8⟩
      have HS := Lib.hid hSX
      have hcI := (HBV.out.cell (p := ⟨gi, oi + i * 1 + 0, none⟩) hgi2).trans hci
      simp only [Nat.add_zero, Nat.mul_one] at hcI
      have hjlen : j < len := by rw [HLEN.out]; exact hjl
      clear hcell hci hSX
      go_upto_region 7 with fail
      have bd : Below V.heap.size V V.drew := ext_drew (ext_refl _)
      have HXD := Lib.hid (ExM.ext bd _ _ HX0.out)
      have HND := Lib.hid (HNV.out.on bd)
      have HOD := Lib.hid (HO.out.later bd)
      have HBD := Lib.hid (HBV.out.trans (bd.mono HBV.out.size))
      have SA := Lib.hid (HS.out _ HBD.out)
      have hnn : ni ≤ 1353245080340 := by omega
      obtain ⟨Z, hZ⟩ : ∃ Z, Z = (Ex.mk op1 v1 rel1 col1 n1 s1 l1).rank S := ⟨_, rfl⟩
      have HNC := Lib.hid (numC_any S A B HSS.out _ (.mk op1 v1 rel1 col1 n1 s1 l1) (Nat.le_refl _) HOK.out V.drew _ HXD.out HND.out)
      rw [← hZ] at HNC HT
      clear hZ HX0 HNV HO bd hcI hgi2 HXD HND HOK
      go_region_held3 (fun W' => W'.cell? ⟨B, 0, none⟩ = some (.func (.func 44) #[] #[.pointer (some ⟨A, 0, none⟩), .pointer (some ⟨B, 0, none⟩)]) ∧ W'.cell? ⟨g0, off0 + j * 9, none⟩ = some (.int .i64 op1) ∧ W'.cell? ⟨g0, off0 + j * 9 + 1, none⟩ = some (.int .i64 v1.k) ∧ W'.cell? ⟨g0, off0 + j * 9 + 2, none⟩ = some (.int .i64 v1.n) ∧ W'.cell? ⟨g0, off0 + j * 9 + 3, none⟩ = some (.string v1.s) ∧ W'.cell? ⟨g0, off0 + j * 9 + 4, none⟩ = some (.int .i64 rel1) ∧ W'.cell? ⟨g0, off0 + j * 9 + 5, none⟩ = some (.int .i64 col1) ∧ W'.cell? ⟨g0, off0 + j * 9 + 6, none⟩ = some (.int .i64 n1) ∧ W'.cell? ⟨g0, off0 + j * 9 + 7, none⟩ = some (.string s1) ∧ W'.cell? ⟨g0, off0 + j * 9 + 8, none⟩ = some (.slice qq0 l1.length cc0)) (first | with_reducible exact SA.out | with_reducible exact SB.out | exact SC.out | exact SD.out)
        (first
          | (go_at_call 44; ((with_reducible refine HNC.out.mono ?_); rintro e Y ⟨⟨cs', rfl, hP⟩, hbY⟩; have HP := Lib.hid hP; have HBY := Lib.hid (HBD.out.trans (hbY.mono HBD.out.size)); have SB := Lib.hid (HS.out _ HBY.out); have HOY := Lib.hid (HOD.out.later hbY); obtain ⟨r', rfl⟩ := hP.raw; clear hP hbY; obtain ⟨opz, ⟨vkz, vnz, vsz⟩, relz, colz, nz, sz, qz, lenz, cz⟩ := r'; have HO2 := Lib.hid (HOY.out.later (ext_alloc (ext_refl Y) (.cells (exCells opz ⟨vkz, vnz, vsz⟩ relz colz nz sz qz lenz cz).toArray 26))); have B2 := Lib.hid (HBY.out.trans ((ext_alloc (ext_refl Y) (.cells (exCells opz ⟨vkz, vnz, vsz⟩ relz colz nz sz qz lenz cz).toArray 26)).mono HBY.out.size)); have SC := Lib.hid (HS.out _ B2.out)))
          | (refine step_append_x rfl _ _ rfl X.heap.size (fun k => X.heap.size ≤ k) u6 M rfl HO2.out i HTL.out.symm ⟨opz, ⟨vkz, vnz, vsz⟩, relz, colz, nz, sz, qz, lenz, cz⟩ Z _ _ 0 (Y.heap.size + 1) rfl (one_block RawE.cells_len 26 _ ⟨opz, ⟨vkz, vnz, vsz⟩, relz, colz, nz, sz, qz, lenz, cz⟩ rfl _ rfl) (renum_k1 HBD.out.size HOD.out HP.out) (by omega) B2.out.size ?_; intro q3 c3 Q hO hbQ hoQ; rw [← HT.out] at hO; have HN := Lib.hid hO; have HBQ := Lib.hid (B2.out.trans hbQ); have SD := Lib.hid (HS.out _ HBQ.out); clear hO hbQ hoQ))
      clear HO2 HOD B2 HBY HP HT SA SB SC SD HBD HOY
      go_wp2_with fail
      go_roundw
      case rel => exact ⟨i + 1, by go_num, hlt, HN.out, HBQ.out⟩
      case measure => simp [intOf] <;> omega
    · have HE := Lib.hid (show ((withinE (S : Int) L).take i).map (fun i => (L.getD i (.mk 0 zeroVal 0 0 0 ⟨#[]⟩ [])).rank S) = rankedE (S : Int) L by
        rw [show i = (withinE (S : Int) L).length by rw [← HNI.out]; omega, List.take_length]
        exact HRE.out)
      rw [HE.out] at HO
      go_wp2_with fail
      refine bodyPost_ret (v := u6) (by simp [results, Tryd.results31, go_sem]) rfl ⟨⟨_, rfl, HO.out.weaken HBX.out.size (fun k hk _ => Nat.le_trans HBX.out.size hk)⟩, HBX.out.trans (HBV.out.mono HBX.out.size)⟩
end Go.Proofs.YtklgoajgchfmeaaDoor
