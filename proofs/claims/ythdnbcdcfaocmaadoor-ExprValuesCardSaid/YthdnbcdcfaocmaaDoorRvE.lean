/- The reference: the value of an expression (eval, Eval). -/
import Derived.Test.YthdnbcdcfaocmaaDoorThE
import Derived.Test.YthdnbcdcfaocmaaDoorExN
import Derived.Test.YthdnbcdcfaocmaaDoorEgB
import Derived.Test.YthdnbcdcfaocmaaDoorValS
import Derived.Test.YthdnbcdcfaocmaaDoorValG
import Derived.Test.YthdnbcdcfaocmaaDoorValI
import Derived.Test.YthdnbcdcfaocmaaDoorQTail
import Derived.StillTailTactics
namespace Go.Proofs.YthdnbcdcfaocmaaDoor
open Go.RowKit Go.Deep
set_option maxRecDepth 100000

abbrev vCell8 (x : Val) : List Value := [.int .i64 x.k, .int .i64 x.n, .string x.s]
theorem vCell8_len (x : Val) : (vCell8 x).length = 3 := rfl
theorem vCell8_one (x : Val) (u : Value) (h : u ∈ vCell8 x) : u.oneCell' = true := by simp at h; rcases h with rfl | rfl | rfl <;> rfl
theorem Tryd.infoVal8 : (Tryd.prog.info? 23).map (fun i => (i.zero, i.size, i.bytes)) = some (some (.agg #[.int .i64 0, .int .i64 0, .string ⟨#[]⟩]), 3, 32) := by kernel_rfl
def OwnV8 (w : World) (base : Nat) (v : Value) (l : List Val) : Prop := OwnF w base 23 3 vCell8 v l
/-- What an own slice of values reads as. -/
theorem OwnV8.read {w : World} {base : Nat} {v : Value} {l : List Val} (h : OwnV8 w base v l) (h0 : 0 < l.length) : ∃ g c, v = .slice (some ⟨g, 0, none⟩) l.length c ∧ l.length ≤ c ∧ c ≤ 9223372036854775807 ∧ g < w.heap.size ∧ ∀ i z, l[i]? = some z → w.cell? ⟨g, i * 3, none⟩ = some (.int .i64 z.k) ∧ w.cell? ⟨g, i * 3 + 1, none⟩ = some (.int .i64 z.n) ∧ w.cell? ⟨g, i * 3 + 2, none⟩ = some (.string z.s) := by
  obtain ⟨q, c, h1, h2, h3, h4, h5⟩ := OwnF.arr vCell8_len h
  obtain ⟨g, off, rfl, hb, hg, hc⟩ := h5 0 h0
  obtain ⟨rfl, -, -, -⟩ := h4 g off rfl
  refine ⟨g, c, h1, h2, h3, hg, fun i z hz => ?_⟩
  have e0 := hc i z hz 0 _ rfl
  have e1 := hc i z hz 1 _ rfl
  have e2 := hc i z hz 2 _ rfl
  rw [Nat.zero_add] at e0 e1 e2
  exact ⟨e0, e1, e2⟩

/-- What stands where in a call of eval: the expression in block g, the answer in block r. -/
structure RS8 (w W : World) (g r : Nat) (op : Int) (v : Val) (rel col n : Int) (s : ByteArray) (q : Option Addr) (len c : Nat) : Prop where
  e : EB W g op v rel col n s q len c
  t : TV W r 0 0 ⟨#[]⟩
  b : Below w.heap.size w W
theorem RS8.on {w W W' : World} {g r : Nat} {op : Int} {v : Val} {rel col n : Int} {s : ByteArray} {q : Option Addr} {len c : Nat} (H : RS8 w W g r op v rel col n s q len c) (hb : Below W.heap.size W W') : RS8 w W' g r op v rel col n s q len c :=
  ⟨H.e.on hb, H.t.on hb, H.b.trans (hb.mono H.b.size)⟩

def REvC (x : Ex) : Prop := ∀ (w : World) (cs : List Value) (cv pv : Value) (cols : List (List Val)) (ps : List Val), ExM w x cs → VM w cv pv cols ps → RV cols ps → thereE cols ps x = true →
  Calls Tryd.prog 66 #[.agg cs.toArray, cv, pv] w fun e w' => e = .returned (.tuple #[(evalE cols ps x).1.v, .int .i64 (evalE cols ps x).2]) ∧ Below w.heap.size w w'

set_option maxHeartbeats 16000000 in
theorem revC_mk (op : Int) (v : Val) (rel col n : Int) (s : ByteArray) (l : List Ex) (hh : headOk op v rel col n s l.length = true) (IH : ∀ y ∈ l, REvC y) : REvC (.mk op v rel col n s l) := by
  intro w cs cv pv cols ps hx hM hRV hTh
  rw [ExM.iff] at hx
  obtain ⟨-, q, c, rfl, -, hl⟩ := hx
  obtain ⟨len, hlen⟩ : ∃ len, len = l.length := ⟨_, rfl⟩
  have HLEN := Lib.hid hlen
  rw [← hlen] at hh ⊢
  have HL := Lib.hid hl
  have HI := Lib.hid IH
  have HMw := Lib.hid hM
  have HRV := Lib.hid hRV
  have HH := Lib.hid hh
  have HTH := Lib.hid hTh
  clear hl IH hM hRV hlen hh hTh
  obtain ⟨⟨cq, cc, rfl, hcc, hcm, -⟩, pq, pc, rfl, hpc, hpm, -⟩ := id HMw.out
  have E0 := EB.new w op v rel col n s q len c 26
  obtain ⟨W1, hW1⟩ : ∃ W, W = w.alloc (.cells (exCells op v rel col n s q len c).toArray 26) := ⟨_, rfl⟩
  rw [← hW1] at E0
  have z1 : W1.heap.size = w.heap.size + 1 := by rw [hW1]; simp
  have T0 := TV.new W1
  obtain ⟨W, hW⟩ : ∃ W, W = W1.alloc (.cells #[.int .i64 0, .int .i64 0, .string ⟨#[]⟩] 23) := ⟨_, rfl⟩
  rw [← hW, z1] at T0
  have b1 : Below W1.heap.size W1 W := by rw [hW]; (repeat (first | exact ext_refl _ | assumption | (refine ext_alloc ?_ _) | (refine ext_drewN ?_ _) | refine ext_drew ?_ | (refine ext_set (by first | (simp; done) | (simp; omega)) _ ?_) | (refine ext_trans ?_ (by assumption))))
  have b : Below w.heap.size w W := by rw [hW, hW1]; (repeat (first | exact ext_refl _ | assumption | (refine ext_alloc ?_ _) | (refine ext_drewN ?_ _) | refine ext_drew ?_ | (refine ext_set (by first | (simp; done) | (simp; omega)) _ ?_) | (refine ext_trans ?_ (by assumption))))
  have E1 := E0.on b1
  have HWW := Lib.hid (show W = (w.alloc (.cells (exCells op v rel col n s q len c).toArray 26)).alloc (.cells #[.int .i64 0, .int .i64 0, .string ⟨#[]⟩] 23) by rw [hW, hW1])
  clear hW hW1 E0 z1 b1
  go_enter Tryd.func66, Tryd.ntmps66
  go_upto_region 1 with fail
  rw [← HWW.out]
  clear HWW
  obtain ⟨g, hg⟩ : ∃ g, g = w.heap.size := ⟨_, rfl⟩
  have HGW := Lib.hid hg
  rw [← hg] at E1 T0 ⊢
  obtain ⟨r, hr⟩ : ∃ r, r = g + 1 := ⟨_, rfl⟩
  have HGR := Lib.hid hr
  rw [← hr] at T0 ⊢
  have HS := Lib.hid (show RS8 w W g r op v rel col n s q len c from ⟨E1, T0, b⟩)
  clear hg hr b
  obtain ⟨lt, c0, c1, c2, c3, c4, c5, c6, c7, c8⟩ := E1
  obtain ⟨ltR, t0, t1, t2, tf⟩ := T0
  have hop := op_range HH.out
  by_cases e1 : op = 1
  · have q1 : (op == 1) = true := by rw [beq_iff_eq]; exact e1
    have HQ := Lib.hid (eval_one (cols := cols) (ps := ps) (v := v) (rel := rel) (col := col) (n := n) (s := s) (l := l) e1)
    clear e1 hop
    obtain ⟨vk, vn, vs⟩ := v
    have TT := Lib.hid (HS.out.t.all vk vn vs)
    have HE := Lib.hid (ext_val HS.out.b (by have := HGR.out; have := HGW.out; omega : w.heap.size ≤ r) vk vn vs)
    go_wp2_with fail
    obtain ⟨Q, hQ⟩ : ∃ X', X' = (((W.setCell ⟨r, 0, none⟩ (.int .i64 vk)).setCell ⟨r, 1, none⟩ (.int .i64 vn)).setCell ⟨r, 2, none⟩ (.string vs)) := ⟨_, rfl⟩
    rw [← hQ] at TT HE
    rw [← hQ]
    obtain ⟨-, y0, y1, y2, -⟩ := TT.out
    refine bodyPost_ret (v := .tuple #[.agg #[.int .i64 vk, .int .i64 vn, .string vs], .int .i64 0]) (by simp [results, Tryd.results66, go_sem, y0, y1, y2]) rfl ⟨by rw [HQ.out], HE.out⟩
  have q1 : (op == 1) = false := by rw [beq_eq_false_iff_ne]; exact e1
  by_cases e2 : op = 2
  · have q2 : (op == 2) = true := by rw [beq_iff_eq]; exact e2
    have E2 := Lib.hid e2
    clear e1 e2 hop
    go_upto_region 5 with fail
    have e2 := E2.out
    have hr2 := rel_ok HH.out e2
    have hc2 := col_ok HH.out e2
    obtain ⟨rn, rfl⟩ : ∃ m : Nat, rel = (m : Int) := ⟨rel.toNat, by omega⟩
    obtain ⟨cn, rfl⟩ : ∃ m : Nat, col = (m : Int) := ⟨col.toNat, by omega⟩
    have hsome : (leafV op (rn : Int) (cn : Int) n cols ps).isSome = true := by have h := HTH.out; rw [thereE, Bool.and_eq_true] at h; exact h.1
    obtain ⟨z, hz⟩ := Option.isSome_iff_exists.1 hsome
    have HQ := Lib.hid (show evalE cols ps (.mk op v (rn : Int) (cn : Int) n s l) = (z, 0) by rw [eval_leaf (.inl e2), hz]; rfl)
    rw [leafV, if_pos e2, Int.toNat_natCast, Int.toNat_natCast] at hz
    obtain ⟨ll, hll, hzl⟩ := Option.bind_eq_some_iff.1 hz
    have hlt := (List.getElem?_eq_some_iff.1 hll).1
    have hlt2 := (List.getElem?_eq_some_iff.1 hzl).1
    obtain ⟨⟨_, _, hsl, _, _, hP⟩, -⟩ := HMw.out.on HS.out.b
    obtain ⟨rfl, -, rfl⟩ : cq = _ ∧ True ∧ cc = _ := by injection hsl with h1 _ h3; exact ⟨h1, trivial, h3⟩
    clear hsl hsome
    obtain ⟨gp, offp, hq, _, hgp, hcell⟩ := ArrA.at_ hP hlt
    subst hq
    have hll2 : cols[rn] = ll := by have := hll; rw [List.getElem?_eq_getElem hlt] at this; exact Option.some.inj this
    rw [hll2] at hcell
    obtain ⟨lq, lc, hcell, hlc, hlm, hL⟩ := hcell
    rw [Nat.mul_one] at hcell
    obtain ⟨gl, offl, hq, _, hgl, v0, v1, v2⟩ := ArrA.at_ hL hlt2
    subst hq
    have hzz : ll[cn] = z := by have := hzl; rw [List.getElem?_eq_getElem hlt2] at this; exact Option.some.inj this
    rw [hzz] at v0 v1 v2
    obtain ⟨rk, rm, rs⟩ := z
    clear hll hzl hz hll2 hzz hP hL e2 hr2 hc2
    simp only at v0 v1 v2
    go_still_tail 9, (by kernel_rfl)
    change wpList _ _ _ _ _ W.drew
    have HSD := Lib.hid (HS.out.on (Below.refl _ _).drew)
    clear hcell v0 v1 v2 lt c0 c1 c2 c3 c4 c5 c6 c7 c8 ltR t0 t1 t2 tf
    generalize W.drew = D at HSD ⊢
    obtain ⟨lt, c0, c1, c2, c3, c4, c5, c6, c7, c8⟩ := HSD.out.e
    obtain ⟨ltR, t0, t1, t2, tf⟩ := HSD.out.t
    have TT := Lib.hid (HSD.out.t.all rk rm rs)
    have HE := Lib.hid (ext_val HSD.out.b (by have := HGR.out; have := HGW.out; omega : w.heap.size ≤ r) rk rm rs)
    go_wp2_with fail
    obtain ⟨Q, hQ⟩ : ∃ X', X' = (((D.setCell ⟨r, 0, none⟩ (.int .i64 rk)).setCell ⟨r, 1, none⟩ (.int .i64 rm)).setCell ⟨r, 2, none⟩ (.string rs)) := ⟨_, rfl⟩
    rw [← hQ] at TT HE
    rw [← hQ]
    obtain ⟨-, y0, y1, y2, -⟩ := TT.out
    refine bodyPost_ret (v := .tuple #[.agg #[.int .i64 rk, .int .i64 rm, .string rs], .int .i64 0]) (by simp [results, Tryd.results66, go_sem, y0, y1, y2]) rfl ⟨by rw [HQ.out], HE.out⟩
  have q2 : (op == 2) = false := by rw [beq_eq_false_iff_ne]; exact e2
  by_cases e3 : op = 3
  · have q3 : (op == 3) = true := by rw [beq_iff_eq]; exact e3
    have E3 := Lib.hid e3
    clear e1 e2 e3 hop
    go_upto_region 7 with fail
    have e3 := E3.out
    have hn3 := n_ok HH.out e3
    obtain ⟨m, rfl⟩ : ∃ m : Nat, n = (m : Int) + 1 := ⟨(n - 1).toNat, by omega⟩
    have hsome : (leafV op rel col ((m : Int) + 1) cols ps).isSome = true := by have h := HTH.out; rw [thereE, Bool.and_eq_true] at h; exact h.1
    obtain ⟨z, hz⟩ := Option.isSome_iff_exists.1 hsome
    have HQ := Lib.hid (show evalE cols ps (.mk op v rel col ((m : Int) + 1) s l) = (z, 0) by rw [eval_leaf (.inr e3), hz]; rfl)
    rw [leafV, if_neg (by omega), if_pos e3, show ((m : Int) + 1 - 1).toNat = m by omega] at hz
    have hlt2 := (List.getElem?_eq_some_iff.1 hz).1
    obtain ⟨-, _, _, hsl, _, _, hL⟩ := HMw.out.on HS.out.b
    obtain ⟨rfl, -, rfl⟩ : pq = _ ∧ True ∧ pc = _ := by injection hsl with h1 _ h3; exact ⟨h1, trivial, h3⟩
    clear hsl hsome
    obtain ⟨gl, offl, hq, _, hgl, v0, v1, v2⟩ := ArrA.at_ hL hlt2
    subst hq
    have hzz : ps[m] = z := by have := hz; rw [List.getElem?_eq_getElem hlt2] at this; exact Option.some.inj this
    rw [hzz] at v0 v1 v2
    obtain ⟨rk, rm, rs⟩ := z
    have nI : (m : Int) < (ps.length : Int) := by omega
    clear hz hzz hL e3 hn3
    simp only at v0 v1 v2
    have TT := Lib.hid (HS.out.t.all rk rm rs)
    have HE := Lib.hid (ext_val HS.out.b (by have := HGR.out; have := HGW.out; omega : w.heap.size ≤ r) rk rm rs)
    go_wp2_with fail
    obtain ⟨Q, hQ⟩ : ∃ X', X' = (((W.setCell ⟨r, 0, none⟩ (.int .i64 rk)).setCell ⟨r, 1, none⟩ (.int .i64 rm)).setCell ⟨r, 2, none⟩ (.string rs)) := ⟨_, rfl⟩
    rw [← hQ] at TT HE
    rw [← hQ]
    obtain ⟨-, y0, y1, y2, -⟩ := TT.out
    refine bodyPost_ret (v := .tuple #[.agg #[.int .i64 rk, .int .i64 rm, .string rs], .int .i64 0]) (by simp [results, Tryd.results66, go_sem, y0, y1, y2]) rfl ⟨by rw [HQ.out], HE.out⟩
  have q3 : (op == 3) = false := by rw [beq_eq_false_iff_ne]; exact e3
  have h4 : 4 ≤ op := by omega
  have H4 := Lib.hid h4
  have h18 := hop.2
  have HHT := Lib.hid (wants_three HH.out)
  have hTL : thereL cols ps l = true := by have h := HTH.out; rw [there_other e2 e3] at h; exact h
  clear e1 e2 e3 hop
  rcases l with _ | ⟨y0, _ | ⟨y1, _ | ⟨y2, t⟩⟩⟩
  · exfalso
    have h5 := HLEN.out
    have h6 := (head_parts HH.out).1
    rw [h5] at h6
    unfold wantsOf at h6
    rw [if_neg (by omega), if_neg (by omega)] at h6
    split at h6 <;> simp at h6
  · skip
    obtain rfl : len = 1 := HLEN.out
    have HT0 := Lib.hid (show thereE cols ps y0 = true by rw [thereL, thereL, Bool.and_true] at hTL; exact hTL)
    have H8 := Lib.hid ((HHT.out (by omega)).2.2.1 rfl)
    have HLW := Lib.hid (ExL.ext HS.out.b _ _ _ HL.out)
    have HKW := Lib.hid (HMw.out.on HS.out.b)
    have HSW := HS
    clear hTL h4 h18 HHT
    have hl_ := ExL.at_ (j := 0) (x := y0) HLW.out rfl
    obtain ⟨g0, off0, cs0, hq0, hg0, hx0, hcell⟩ := hl_
    subst hq0
    have HX0 := Lib.hid hx0
    obtain ⟨op1, v1, rel1, col1, n1, s1, l1⟩ := y0
    rw [ExM.iff] at hx0
    obtain ⟨hv0, qq0, cc0, rfl, -, -⟩ := hx0
    have HV1 := Lib.hid (eval_in HRV.out (op := op1) (v := v1) (rel := rel1) (col := col1) (n := n1) (s := s1) (l := l1) hv0.2.1)
    clear hv0
    have f0 := hcell 0 _ rfl
    have f1 := hcell 1 _ rfl
    have f2 := hcell 2 _ rfl
    have f3 := hcell 3 _ rfl
    have f4 := hcell 4 _ rfl
    have f5 := hcell 5 _ rfl
    have f6 := hcell 6 _ rfl
    have f7 := hcell 7 _ rfl
    have f8 := hcell 8 _ rfl
    simp only [Nat.zero_mul, Nat.add_zero] at f0 f1 f2 f3 f4 f5 f6 f7 f8
    clear hcell
    go_wp2_with fail
    refine wp_loop_rounds 2 ?_
    rw [rounds_succ]
    go_wp2_with fail
    refine (HI.out (Ex.mk op1 v1 rel1 col1 n1 s1 l1) (by simp) W _ _ _ cols ps HX0.out HKW.out HRV.out HT0.out).mono ?_
    rintro e Y ⟨he, hb⟩
    have HSY := Lib.hid (HSW.out.on hb)
    have HLY := Lib.hid (ExL.ext hb _ _ _ HLW.out)
    have HKY := Lib.hid (HKW.out.on hb)
    clear f0 f1 f2 f3 f4 f5 f6 f7 f8
    clear lt c0 c1 c2 c3 c4 c5 c6 c7 c8 ltR t0 t1 t2 tf
    clear hb
    obtain ⟨⟨rk0, rn0, rs0⟩, er0, hr0⟩ : ∃ (z : Val) (er : Int), evalE cols ps (Ex.mk op1 v1 rel1 col1 n1 s1 l1) = (z, er) := ⟨_, _, rfl⟩
    rw [hr0] at he HV1
    simp only at he HV1
    have HR0 := Lib.hid hr0
    clear hr0
    subst he
    obtain ⟨lt, c0, c1, c2, c3, c4, c5, c6, c7, c8⟩ := HSY.out.e
    obtain ⟨ltR, t0, t1, t2, tf⟩ := HSY.out.t
    by_cases he0 : er0 = 0
    · subst he0
      have hne : ((0 : Int) != 0) = false := rfl
      go_wp2_with (at_builtin; refine wp_append_flat rfl _ _ 46 23 rfl Tryd.underlying46 (.agg #[.int .i64 0, .int .i64 0, .string ⟨#[]⟩]) 32 Tryd.infoVal8 rfl (by decide) vCell8_len vCell8_one Y.heap.size _ [] rfl (OwnF.nil _ _ _) _ 1 1 [(⟨rk0, rn0, rs0⟩ : Val)] rfl rfl 0 _ (one_block vCell8_len 23 #[.int .i64 rk0, .int .i64 rn0, .string rs0] (⟨rk0, rn0, rs0⟩ : Val) rfl _ (by simp)) ?ka0 ?kb0 ?kc0 ?_)
      case ka0 => simp [maxLen]
      case kb0 => simp
      case kc0 => (simp; omega)
      intro vv N HOa hba hoa
      have hbN := (ext_alloc (ext_alloc (ext_refl Y) (.cells #[.int .i64 rk0, .int .i64 rn0, .string rs0] 23)) (.cells #[.int .i64 rk0, .int .i64 rn0, .string rs0] 23)).trans hba
      have HSN := Lib.hid (HSY.out.on hbN)
      obtain ⟨gN, c1_, rfl, hc1_, hm1_, hg1_, hr1_⟩ := OwnV8.read HOa (by simp)
      obtain ⟨hz1_0, hz1_1, hz1_2⟩ := hr1_ 0 (⟨rk0, rn0, rs0⟩ : Val) rfl
      simp only [Nat.zero_mul, Nat.zero_add, List.length_cons, List.length_nil] at hc1_ hm1_ hz1_0 hz1_1 hz1_2 ⊢
      clear hr1_ HOa hba hoa hbN hne
      clear lt c0 c1 c2 c3 c4 c5 c6 c7 c8 ltR t0 t1 t2 tf
      obtain ⟨lt, c0, c1, c2, c3, c4, c5, c6, c7, c8⟩ := HSN.out.e
      obtain ⟨ltR, t0, t1, t2, tf⟩ := HSN.out.t
      obtain ⟨⟨⟨rk, rn, rs⟩, er⟩, hz⟩ : ∃ z : Val × Int, z = applyS op ⟨rk0, rn0, rs0⟩ zeroVal := ⟨_, rfl⟩
      have HQ := Lib.hid (show evalE cols ps (.mk op v rel col n s [(Ex.mk op1 v1 rel1 col1 n1 s1 l1)]) = (⟨rk, rn, rs⟩, er) by rw [eval_op H4.out, evalL_ok (by rw [HR0.out]), evalL_nil, HR0.out]; exact hz.symm)
      have HZ := Lib.hid hz
      clear hz
      go_wp2_with fail
      rw [rounds_succ]
      rcases H8.out with rfl | rfl | rfl
      · have hcv := rneg_any (⟨rk0, rn0, rs0⟩ : Val) N HV1.out
        rw [show arith 5 (num 0) (⟨rk0, rn0, rs0⟩ : Val) = (⟨rk, rn, rs⟩, er) from HZ.out.symm] at hcv
        simp only at hcv
        have HCV := Lib.hid hcv
        clear hcv
        go_wp2_with fail
        refine HCV.out.mono ?_
        rintro e X ⟨rfl, hbX⟩
        have HSX := Lib.hid (HSN.out.on hbX)
        clear hbX HCV
        clear lt c0 c1 c2 c3 c4 c5 c6 c7 c8 ltR t0 t1 t2 tf
        obtain ⟨lt, c0, c1, c2, c3, c4, c5, c6, c7, c8⟩ := HSX.out.e
        obtain ⟨ltR, t0, t1, t2, tf⟩ := HSX.out.t
        have TT := Lib.hid (HSX.out.t.all rk rn rs)
        have HE := Lib.hid (ext_val HSX.out.b (by have := HGR.out; have := HGW.out; omega : w.heap.size ≤ r) rk rn rs)
        go_wp2_with fail
        obtain ⟨Q, hQ⟩ : ∃ X', X' = (((X.setCell ⟨r, 0, none⟩ (.int .i64 rk)).setCell ⟨r, 1, none⟩ (.int .i64 rn)).setCell ⟨r, 2, none⟩ (.string rs)) := ⟨_, rfl⟩
        rw [← hQ] at TT HE
        rw [← hQ]
        obtain ⟨-, y0, y1, y2, -⟩ := TT.out
        refine bodyPost_ret (v := .tuple #[.agg #[.int .i64 rk, .int .i64 rn, .string rs], .int .i64 er]) (by simp [results, Tryd.results66, go_sem, y0, y1, y2]) rfl ⟨by rw [HQ.out], HE.out⟩
      · have hcv := rnot_any (⟨rk0, rn0, rs0⟩ : Val) N
        rw [show notS (⟨rk0, rn0, rs0⟩ : Val) = (⟨rk, rn, rs⟩, er) from HZ.out.symm] at hcv
        simp only at hcv
        have HCV := Lib.hid hcv
        clear hcv
        go_wp2_with fail
        refine HCV.out.mono ?_
        rintro e X ⟨rfl, hbX⟩
        have HSX := Lib.hid (HSN.out.on hbX)
        clear hbX HCV
        clear lt c0 c1 c2 c3 c4 c5 c6 c7 c8 ltR t0 t1 t2 tf
        obtain ⟨lt, c0, c1, c2, c3, c4, c5, c6, c7, c8⟩ := HSX.out.e
        obtain ⟨ltR, t0, t1, t2, tf⟩ := HSX.out.t
        have TT := Lib.hid (HSX.out.t.all rk rn rs)
        have HE := Lib.hid (ext_val HSX.out.b (by have := HGR.out; have := HGW.out; omega : w.heap.size ≤ r) rk rn rs)
        go_wp2_with fail
        obtain ⟨Q, hQ⟩ : ∃ X', X' = (((X.setCell ⟨r, 0, none⟩ (.int .i64 rk)).setCell ⟨r, 1, none⟩ (.int .i64 rn)).setCell ⟨r, 2, none⟩ (.string rs)) := ⟨_, rfl⟩
        rw [← hQ] at TT HE
        rw [← hQ]
        obtain ⟨-, y0, y1, y2, -⟩ := TT.out
        refine bodyPost_ret (v := .tuple #[.agg #[.int .i64 rk, .int .i64 rn, .string rs], .int .i64 er]) (by simp [results, Tryd.results66, go_sem, y0, y1, y2]) rfl ⟨by rw [HQ.out], HE.out⟩
      · have hcv := rtruth_any (rk0 == 0) N
        have hz2 := HZ.out
        rw [show applyS 18 (⟨rk0, rn0, rs0⟩ : Val) zeroVal = (tru (bit (rk0 == 0)), 0) from rfl] at hz2
        obtain ⟨h5, h6⟩ := Prod.mk.inj hz2
        rw [← h5] at hcv
        obtain rfl := h6
        have HCV := Lib.hid hcv
        clear hcv hz2 h5
        go_wp2_with fail
        refine HCV.out.mono ?_
        rintro e X ⟨rfl, hbX⟩
        have HSX := Lib.hid (HSN.out.on hbX)
        clear hbX HCV
        clear lt c0 c1 c2 c3 c4 c5 c6 c7 c8 ltR t0 t1 t2 tf
        obtain ⟨lt, c0, c1, c2, c3, c4, c5, c6, c7, c8⟩ := HSX.out.e
        obtain ⟨ltR, t0, t1, t2, tf⟩ := HSX.out.t
        have TT := Lib.hid (HSX.out.t.all rk rn rs)
        have HE := Lib.hid (ext_val HSX.out.b (by have := HGR.out; have := HGW.out; omega : w.heap.size ≤ r) rk rn rs)
        go_wp2_with fail
        obtain ⟨Q, hQ⟩ : ∃ X', X' = (((X.setCell ⟨r, 0, none⟩ (.int .i64 rk)).setCell ⟨r, 1, none⟩ (.int .i64 rn)).setCell ⟨r, 2, none⟩ (.string rs)) := ⟨_, rfl⟩
        rw [← hQ] at TT HE
        rw [← hQ]
        obtain ⟨-, y0, y1, y2, -⟩ := TT.out
        refine bodyPost_ret (v := .tuple #[.agg #[.int .i64 rk, .int .i64 rn, .string rs], .int .i64 0]) (by simp [results, Tryd.results66, go_sem, y0, y1, y2]) rfl ⟨by rw [HQ.out], HE.out⟩
    · have hne : (er0 != 0) = true := by simpa using he0
      have HQ := Lib.hid (show evalE cols ps (.mk op v rel col n s [(Ex.mk op1 v1 rel1 col1 n1 s1 l1)]) = (zeroVal, er0) by rw [eval_op H4.out, evalL_bad (by rw [HR0.out]; exact he0), HR0.out])
      clear he0
      have TT := Lib.hid ((HSY.out.t.all 0 0 ⟨#[]⟩).on (ext_alloc (ext_refl _) (.cells #[.int .i64 rk0, .int .i64 rn0, .string rs0] 23)))
      have HE := Lib.hid (ext_alloc (ext_val HSY.out.b (by have := HGR.out; have := HGW.out; omega : w.heap.size ≤ r) 0 0 ⟨#[]⟩) (.cells #[.int .i64 rk0, .int .i64 rn0, .string rs0] 23))
      go_wp2_with fail
      obtain ⟨Q, hQ⟩ : ∃ X', X' = ((((Y.setCell ⟨r, 0, none⟩ (.int .i64 0)).setCell ⟨r, 1, none⟩ (.int .i64 0)).setCell ⟨r, 2, none⟩ (.string ⟨#[]⟩))).alloc (.cells #[.int .i64 rk0, .int .i64 rn0, .string rs0] 23) := ⟨_, rfl⟩
      rw [← hQ] at TT HE
      rw [← hQ]
      obtain ⟨-, y0, y1, y2, -⟩ := TT.out
      refine bodyPost_ret (v := .tuple #[.agg #[.int .i64 0, .int .i64 0, .string ⟨#[]⟩], .int .i64 er0]) (by simp [results, Tryd.results66, go_sem, y0, y1, y2]) rfl ⟨by rw [HQ.out]; rfl, HE.out⟩
  · skip
    obtain rfl : len = 2 := HLEN.out
    have HT0 := Lib.hid (show thereE cols ps y0 = true by rw [thereL, Bool.and_eq_true] at hTL; exact hTL.1)
    have HT1 := Lib.hid (show thereE cols ps y1 = true by rw [thereL, thereL, thereL, Bool.and_true, Bool.and_eq_true] at hTL; exact hTL.2)
    have hn8 : op ≠ 8 ∧ op ≠ 17 ∧ op ≠ 18 := by
      have h6 := (head_parts HH.out).1
      refine ⟨?_, ?_, ?_⟩ <;> (rintro rfl; simp [wantsOf] at h6)
    have H7 := Lib.hid (show op = 4 ∨ op = 5 ∨ op = 6 ∨ op = 7 ∨ op = 15 ∨ op = 16 ∨ (9 ≤ op ∧ op ≤ 14) by omega)
    have HLW := Lib.hid (ExL.ext HS.out.b _ _ _ HL.out)
    have HKW := Lib.hid (HMw.out.on HS.out.b)
    have HSW := HS
    clear hTL h4 h18 HHT hn8
    have hl_ := ExL.at_ (j := 0) (x := y0) HLW.out rfl
    obtain ⟨g0, off0, cs0, hq0, hg0, hx0, hcell⟩ := hl_
    subst hq0
    have HX0 := Lib.hid hx0
    obtain ⟨op1, v1, rel1, col1, n1, s1, l1⟩ := y0
    rw [ExM.iff] at hx0
    obtain ⟨hv0, qq0, cc0, rfl, -, -⟩ := hx0
    have HV1 := Lib.hid (eval_in HRV.out (op := op1) (v := v1) (rel := rel1) (col := col1) (n := n1) (s := s1) (l := l1) hv0.2.1)
    clear hv0
    have f0 := hcell 0 _ rfl
    have f1 := hcell 1 _ rfl
    have f2 := hcell 2 _ rfl
    have f3 := hcell 3 _ rfl
    have f4 := hcell 4 _ rfl
    have f5 := hcell 5 _ rfl
    have f6 := hcell 6 _ rfl
    have f7 := hcell 7 _ rfl
    have f8 := hcell 8 _ rfl
    simp only [Nat.zero_mul, Nat.add_zero] at f0 f1 f2 f3 f4 f5 f6 f7 f8
    clear hcell
    go_wp2_with fail
    refine wp_loop_rounds 3 ?_
    rw [rounds_succ]
    go_wp2_with fail
    refine (HI.out (Ex.mk op1 v1 rel1 col1 n1 s1 l1) (by simp) W _ _ _ cols ps HX0.out HKW.out HRV.out HT0.out).mono ?_
    rintro e Y ⟨he, hb⟩
    have HSY := Lib.hid (HSW.out.on hb)
    have HLY := Lib.hid (ExL.ext hb _ _ _ HLW.out)
    have HKY := Lib.hid (HKW.out.on hb)
    clear f0 f1 f2 f3 f4 f5 f6 f7 f8
    clear lt c0 c1 c2 c3 c4 c5 c6 c7 c8 ltR t0 t1 t2 tf
    clear hb
    obtain ⟨⟨rk0, rn0, rs0⟩, er0, hr0⟩ : ∃ (z : Val) (er : Int), evalE cols ps (Ex.mk op1 v1 rel1 col1 n1 s1 l1) = (z, er) := ⟨_, _, rfl⟩
    rw [hr0] at he HV1
    simp only at he HV1
    have HR0 := Lib.hid hr0
    clear hr0
    subst he
    obtain ⟨lt, c0, c1, c2, c3, c4, c5, c6, c7, c8⟩ := HSY.out.e
    obtain ⟨ltR, t0, t1, t2, tf⟩ := HSY.out.t
    by_cases he0 : er0 = 0
    · subst he0
      have hne : ((0 : Int) != 0) = false := rfl
      go_wp2_with (at_builtin; refine wp_append_flat rfl _ _ 46 23 rfl Tryd.underlying46 (.agg #[.int .i64 0, .int .i64 0, .string ⟨#[]⟩]) 32 Tryd.infoVal8 rfl (by decide) vCell8_len vCell8_one Y.heap.size _ [] rfl (OwnF.nil _ _ _) _ 1 1 [(⟨rk0, rn0, rs0⟩ : Val)] rfl rfl 0 _ (one_block vCell8_len 23 #[.int .i64 rk0, .int .i64 rn0, .string rs0] (⟨rk0, rn0, rs0⟩ : Val) rfl _ (by simp)) ?ka0 ?kb0 ?kc0 ?_)
      case ka0 => simp [maxLen]
      case kb0 => simp
      case kc0 => (simp; omega)
      intro vv N HOa hba hoa
      have hbN := (ext_alloc (ext_alloc (ext_refl Y) (.cells #[.int .i64 rk0, .int .i64 rn0, .string rs0] 23)) (.cells #[.int .i64 rk0, .int .i64 rn0, .string rs0] 23)).trans hba
      have HSN := Lib.hid (HSY.out.on hbN)
      have HLN := Lib.hid (ExL.ext hbN _ _ _ HLY.out)
      have HKN := Lib.hid (HKY.out.on hbN)
      have hbYN := Lib.hid hbN
      obtain ⟨gN, c1_, rfl, hc1_, hm1_, hg1_, hr1_⟩ := OwnV8.read HOa (by simp)
      obtain ⟨hz1_0, hz1_1, hz1_2⟩ := hr1_ 0 (⟨rk0, rn0, rs0⟩ : Val) rfl
      simp only [Nat.zero_mul, Nat.zero_add, List.length_cons, List.length_nil] at hc1_ hm1_ hz1_0 hz1_1 hz1_2 HOa ⊢
      have HON := Lib.hid HOa
      clear hr1_ HOa hba hoa hbN hne
      clear lt c0 c1 c2 c3 c4 c5 c6 c7 c8 ltR t0 t1 t2 tf
      obtain ⟨lt, c0, c1, c2, c3, c4, c5, c6, c7, c8⟩ := HSN.out.e
      obtain ⟨ltR, t0, t1, t2, tf⟩ := HSN.out.t
      go_wp2_with fail
      have hl_ := ExL.at_ (j := 1) (x := y1) HLN.out rfl
      obtain ⟨g1, off1, cs1, hq1, hg1, hx1, hcell⟩ := hl_
      obtain ⟨rfl, rfl⟩ : g1 = g0 ∧ off1 = off0 := by cases hq1; exact ⟨rfl, rfl⟩
      clear hq1
      have HX1 := Lib.hid hx1
      obtain ⟨op2, v2, rel2, col2, n2, s2, l2⟩ := y1
      rw [ExM.iff] at hx1
      obtain ⟨hv1, qq1, cc1, rfl, -, -⟩ := hx1
      have HV2 := Lib.hid (eval_in HRV.out (op := op2) (v := v2) (rel := rel2) (col := col2) (n := n2) (s := s2) (l := l2) hv1.2.1)
      clear hv1
      have f0 := hcell 0 _ rfl
      have f1 := hcell 1 _ rfl
      have f2 := hcell 2 _ rfl
      have f3 := hcell 3 _ rfl
      have f4 := hcell 4 _ rfl
      have f5 := hcell 5 _ rfl
      have f6 := hcell 6 _ rfl
      have f7 := hcell 7 _ rfl
      have f8 := hcell 8 _ rfl
      clear hcell
      rw [rounds_succ]
      go_wp2_with fail
      refine (HI.out (Ex.mk op2 v2 rel2 col2 n2 s2 l2) (by simp) N _ _ _ cols ps HX1.out HKN.out HRV.out HT1.out).mono ?_
      rintro e Z ⟨he, hb⟩
      have HSZ := Lib.hid (HSN.out.on hb)
      have HLZ := Lib.hid (ExL.ext hb _ _ _ HLN.out)
      have HKZ := Lib.hid (HKN.out.on hb)
      have HOZ := Lib.hid (HON.out.later hb)
      have hbYZ := Lib.hid (hbYN.out.trans (hb.mono hbYN.out.size))
      clear f0 f1 f2 f3 f4 f5 f6 f7 f8
      clear lt c0 c1 c2 c3 c4 c5 c6 c7 c8 ltR t0 t1 t2 tf
      clear hb
      clear hg1_ hz1_0 hz1_1 hz1_2
      obtain ⟨⟨rk1, rn1, rs1⟩, er1, hr1⟩ : ∃ (z : Val) (er : Int), evalE cols ps (Ex.mk op2 v2 rel2 col2 n2 s2 l2) = (z, er) := ⟨_, _, rfl⟩
      rw [hr1] at he HV2
      simp only at he HV2
      have HR1 := Lib.hid hr1
      clear hr1
      subst he
      obtain ⟨lt, c0, c1, c2, c3, c4, c5, c6, c7, c8⟩ := HSZ.out.e
      obtain ⟨ltR, t0, t1, t2, tf⟩ := HSZ.out.t
      by_cases he1 : er1 = 0
      · subst he1
        have hne : ((0 : Int) != 0) = false := rfl
        go_wp2_with (at_builtin; refine wp_append_flat rfl _ _ 46 23 rfl Tryd.underlying46 (.agg #[.int .i64 0, .int .i64 0, .string ⟨#[]⟩]) 32 Tryd.infoVal8 rfl (by decide) vCell8_len vCell8_one Y.heap.size _ [(⟨rk0, rn0, rs0⟩ : Val)] rfl (HOZ.out.later (ext_alloc (ext_alloc (ext_refl _) _) _)) _ 1 1 [(⟨rk1, rn1, rs1⟩ : Val)] rfl rfl 0 _ (one_block vCell8_len 23 #[.int .i64 rk1, .int .i64 rn1, .string rs1] (⟨rk1, rn1, rs1⟩ : Val) rfl _ (by simp)) ?ka1 ?kb1 ?kc1 ?_)
        case ka1 => simp [maxLen]
        case kb1 => simp
        case kc1 => (have := hbYZ.out.size; simp; omega)
        intro vv M HOa hba hoa
        have hbM := hbYZ.out.trans (((ext_alloc (ext_alloc (ext_refl Z) (.cells #[.int .i64 rk1, .int .i64 rn1, .string rs1] 23)) (.cells #[.int .i64 rk1, .int .i64 rn1, .string rs1] 23)).mono hbYZ.out.size).trans hba)
        have HSM := Lib.hid (HSY.out.on hbM)
        obtain ⟨gM, c2_, rfl, hc2_, hm2_, hg2_, hr2_⟩ := OwnV8.read HOa (by simp)
        obtain ⟨hz2_0, hz2_1, hz2_2⟩ := hr2_ 0 (⟨rk0, rn0, rs0⟩ : Val) rfl
        obtain ⟨hz3_0, hz3_1, hz3_2⟩ := hr2_ 1 (⟨rk1, rn1, rs1⟩ : Val) rfl
        simp only [Nat.zero_mul, Nat.zero_add, Nat.one_mul, Nat.reduceAdd, List.length_cons, List.length_nil] at hc2_ hm2_ hz2_0 hz2_1 hz2_2 hz3_0 hz3_1 hz3_2 ⊢
        clear hr2_ HOa hba hoa hbM hne
        clear lt c0 c1 c2 c3 c4 c5 c6 c7 c8 ltR t0 t1 t2 tf
        obtain ⟨lt, c0, c1, c2, c3, c4, c5, c6, c7, c8⟩ := HSM.out.e
        obtain ⟨ltR, t0, t1, t2, tf⟩ := HSM.out.t
        obtain ⟨⟨⟨rk, rn, rs⟩, er⟩, hz⟩ : ∃ z : Val × Int, z = applyS op ⟨rk0, rn0, rs0⟩ ⟨rk1, rn1, rs1⟩ := ⟨_, rfl⟩
        have HQ := Lib.hid (show evalE cols ps (.mk op v rel col n s [(Ex.mk op1 v1 rel1 col1 n1 s1 l1), (Ex.mk op2 v2 rel2 col2 n2 s2 l2)]) = (⟨rk, rn, rs⟩, er) by rw [eval_op H4.out, evalL_ok (by rw [HR0.out]), evalL_ok (by rw [HR1.out]), evalL_nil, HR0.out, HR1.out]; exact hz.symm)
        have HZ := Lib.hid hz
        clear hz
        go_wp2_with fail
        rw [rounds_succ]
        rcases H7.out with rfl | rfl | rfl | rfl | rfl | rfl | ⟨h9, h14⟩
        · skip
          have HC := Lib.hid (fun (x : After M) => calls_after (show Calls Tryd.prog 86 #[(⟨rk0, rn0, rs0⟩ : Val).v, (⟨rk1, rn1, rs1⟩ : Val).v] x.W (fun e w' => e = .returned (.tuple #[.agg #[.int .i64 rk, .int .i64 rn, .string rs], .int .i64 er]) ∧ Below x.W.heap.size x.W w') by
            have h := radd_any (⟨rk0, rn0, rs0⟩ : Val) (⟨rk1, rn1, rs1⟩ : Val) x.W HV1.out HV2.out
            rw [show arith 4 (⟨rk0, rn0, rs0⟩ : Val) (⟨rk1, rn1, rs1⟩ : Val) = (⟨rk, rn, rs⟩, er) from HZ.out.symm] at h
            exact h))
          go_upto_region 18 with fail
          have e00 := fun (x : After M) => (x.cell gM 0 hg2_).trans hz2_0
          have e01 := fun (x : After M) => (x.cell gM 1 hg2_).trans hz2_1
          have e02 := fun (x : After M) => (x.cell gM 2 hg2_).trans hz2_2
          have e10 := fun (x : After M) => (x.cell gM 3 hg2_).trans hz3_0
          have e11 := fun (x : After M) => (x.cell gM 4 hg2_).trans hz3_1
          have e12 := fun (x : After M) => (x.cell gM 5 hg2_).trans hz3_2
          have is := After.some M
          refine wp_region_after_tail 9 (by kernel_rfl) (by kernel_rfl) ?_
          simp only [List.take_succ_cons, List.take_zero, List.drop_succ_cons, List.drop_zero]
          repeat (quiet_step ((go_at_call 86; exact HC.out _)))
          refine wpQuiet_nil ?_
          intro Wq hw
          have hbq : Below M.heap.size M Wq := by obtain ⟨x, rfl⟩ := hw; exact x.below
          have HSX := Lib.hid (HSM.out.on hbq)
          clear e00 e01 e02 e10 e11 e12 is hw hbq HC
          clear lt c0 c1 c2 c3 c4 c5 c6 c7 c8 ltR t0 t1 t2 tf
          obtain ⟨lt, c0, c1, c2, c3, c4, c5, c6, c7, c8⟩ := HSX.out.e
          obtain ⟨ltR, t0, t1, t2, tf⟩ := HSX.out.t
          have TT := Lib.hid (HSX.out.t.all rk rn rs)
          have HE := Lib.hid (ext_val HSX.out.b (by have := HGR.out; have := HGW.out; omega : w.heap.size ≤ r) rk rn rs)
          go_wp2_with fail
          obtain ⟨Q, hQ⟩ : ∃ X', X' = (((Wq.setCell ⟨r, 0, none⟩ (.int .i64 rk)).setCell ⟨r, 1, none⟩ (.int .i64 rn)).setCell ⟨r, 2, none⟩ (.string rs)) := ⟨_, rfl⟩
          rw [← hQ] at TT HE
          rw [← hQ]
          obtain ⟨-, y0, y1, y2, -⟩ := TT.out
          refine bodyPost_ret (v := .tuple #[.agg #[.int .i64 rk, .int .i64 rn, .string rs], .int .i64 er]) (by simp [results, Tryd.results66, go_sem, y0, y1, y2]) rfl ⟨by rw [HQ.out], HE.out⟩
        · skip
          have HC := Lib.hid (fun (x : After M) => calls_after (show Calls Tryd.prog 87 #[(⟨rk0, rn0, rs0⟩ : Val).v, (⟨rk1, rn1, rs1⟩ : Val).v] x.W (fun e w' => e = .returned (.tuple #[.agg #[.int .i64 rk, .int .i64 rn, .string rs], .int .i64 er]) ∧ Below x.W.heap.size x.W w') by
            have h := rsub_any (⟨rk0, rn0, rs0⟩ : Val) (⟨rk1, rn1, rs1⟩ : Val) x.W HV1.out HV2.out
            rw [show arith 5 (⟨rk0, rn0, rs0⟩ : Val) (⟨rk1, rn1, rs1⟩ : Val) = (⟨rk, rn, rs⟩, er) from HZ.out.symm] at h
            exact h))
          go_upto_region 20 with fail
          have e00 := fun (x : After M) => (x.cell gM 0 hg2_).trans hz2_0
          have e01 := fun (x : After M) => (x.cell gM 1 hg2_).trans hz2_1
          have e02 := fun (x : After M) => (x.cell gM 2 hg2_).trans hz2_2
          have e10 := fun (x : After M) => (x.cell gM 3 hg2_).trans hz3_0
          have e11 := fun (x : After M) => (x.cell gM 4 hg2_).trans hz3_1
          have e12 := fun (x : After M) => (x.cell gM 5 hg2_).trans hz3_2
          have is := After.some M
          refine wp_region_after_tail 9 (by kernel_rfl) (by kernel_rfl) ?_
          simp only [List.take_succ_cons, List.take_zero, List.drop_succ_cons, List.drop_zero]
          repeat (quiet_step ((go_at_call 87; exact HC.out _)))
          refine wpQuiet_nil ?_
          intro Wq hw
          have hbq : Below M.heap.size M Wq := by obtain ⟨x, rfl⟩ := hw; exact x.below
          have HSX := Lib.hid (HSM.out.on hbq)
          clear e00 e01 e02 e10 e11 e12 is hw hbq HC
          clear lt c0 c1 c2 c3 c4 c5 c6 c7 c8 ltR t0 t1 t2 tf
          obtain ⟨lt, c0, c1, c2, c3, c4, c5, c6, c7, c8⟩ := HSX.out.e
          obtain ⟨ltR, t0, t1, t2, tf⟩ := HSX.out.t
          have TT := Lib.hid (HSX.out.t.all rk rn rs)
          have HE := Lib.hid (ext_val HSX.out.b (by have := HGR.out; have := HGW.out; omega : w.heap.size ≤ r) rk rn rs)
          go_wp2_with fail
          obtain ⟨Q, hQ⟩ : ∃ X', X' = (((Wq.setCell ⟨r, 0, none⟩ (.int .i64 rk)).setCell ⟨r, 1, none⟩ (.int .i64 rn)).setCell ⟨r, 2, none⟩ (.string rs)) := ⟨_, rfl⟩
          rw [← hQ] at TT HE
          rw [← hQ]
          obtain ⟨-, y0, y1, y2, -⟩ := TT.out
          refine bodyPost_ret (v := .tuple #[.agg #[.int .i64 rk, .int .i64 rn, .string rs], .int .i64 er]) (by simp [results, Tryd.results66, go_sem, y0, y1, y2]) rfl ⟨by rw [HQ.out], HE.out⟩
        · skip
          have HC := Lib.hid (fun (x : After M) => calls_after (show Calls Tryd.prog 88 #[(⟨rk0, rn0, rs0⟩ : Val).v, (⟨rk1, rn1, rs1⟩ : Val).v] x.W (fun e w' => e = .returned (.tuple #[.agg #[.int .i64 rk, .int .i64 rn, .string rs], .int .i64 er]) ∧ Below x.W.heap.size x.W w') by
            have h := rmul_any (⟨rk0, rn0, rs0⟩ : Val) (⟨rk1, rn1, rs1⟩ : Val) x.W HV1.out HV2.out
            rw [show arith 6 (⟨rk0, rn0, rs0⟩ : Val) (⟨rk1, rn1, rs1⟩ : Val) = (⟨rk, rn, rs⟩, er) from HZ.out.symm] at h
            exact h))
          go_upto_region 22 with fail
          have e00 := fun (x : After M) => (x.cell gM 0 hg2_).trans hz2_0
          have e01 := fun (x : After M) => (x.cell gM 1 hg2_).trans hz2_1
          have e02 := fun (x : After M) => (x.cell gM 2 hg2_).trans hz2_2
          have e10 := fun (x : After M) => (x.cell gM 3 hg2_).trans hz3_0
          have e11 := fun (x : After M) => (x.cell gM 4 hg2_).trans hz3_1
          have e12 := fun (x : After M) => (x.cell gM 5 hg2_).trans hz3_2
          have is := After.some M
          refine wp_region_after_tail 9 (by kernel_rfl) (by kernel_rfl) ?_
          simp only [List.take_succ_cons, List.take_zero, List.drop_succ_cons, List.drop_zero]
          repeat (quiet_step ((go_at_call 88; exact HC.out _)))
          refine wpQuiet_nil ?_
          intro Wq hw
          have hbq : Below M.heap.size M Wq := by obtain ⟨x, rfl⟩ := hw; exact x.below
          have HSX := Lib.hid (HSM.out.on hbq)
          clear e00 e01 e02 e10 e11 e12 is hw hbq HC
          clear lt c0 c1 c2 c3 c4 c5 c6 c7 c8 ltR t0 t1 t2 tf
          obtain ⟨lt, c0, c1, c2, c3, c4, c5, c6, c7, c8⟩ := HSX.out.e
          obtain ⟨ltR, t0, t1, t2, tf⟩ := HSX.out.t
          have TT := Lib.hid (HSX.out.t.all rk rn rs)
          have HE := Lib.hid (ext_val HSX.out.b (by have := HGR.out; have := HGW.out; omega : w.heap.size ≤ r) rk rn rs)
          go_wp2_with fail
          obtain ⟨Q, hQ⟩ : ∃ X', X' = (((Wq.setCell ⟨r, 0, none⟩ (.int .i64 rk)).setCell ⟨r, 1, none⟩ (.int .i64 rn)).setCell ⟨r, 2, none⟩ (.string rs)) := ⟨_, rfl⟩
          rw [← hQ] at TT HE
          rw [← hQ]
          obtain ⟨-, y0, y1, y2, -⟩ := TT.out
          refine bodyPost_ret (v := .tuple #[.agg #[.int .i64 rk, .int .i64 rn, .string rs], .int .i64 er]) (by simp [results, Tryd.results66, go_sem, y0, y1, y2]) rfl ⟨by rw [HQ.out], HE.out⟩
        · skip
          have HC := Lib.hid (fun (x : After M) => calls_after (show Calls Tryd.prog 89 #[(⟨rk0, rn0, rs0⟩ : Val).v, (⟨rk1, rn1, rs1⟩ : Val).v] x.W (fun e w' => e = .returned (.tuple #[.agg #[.int .i64 rk, .int .i64 rn, .string rs], .int .i64 er]) ∧ Below x.W.heap.size x.W w') by
            have h := rdiv_any (⟨rk0, rn0, rs0⟩ : Val) (⟨rk1, rn1, rs1⟩ : Val) x.W HV1.out
            rw [show arith 7 (⟨rk0, rn0, rs0⟩ : Val) (⟨rk1, rn1, rs1⟩ : Val) = (⟨rk, rn, rs⟩, er) from HZ.out.symm] at h
            exact h))
          go_upto_region 24 with fail
          have e00 := fun (x : After M) => (x.cell gM 0 hg2_).trans hz2_0
          have e01 := fun (x : After M) => (x.cell gM 1 hg2_).trans hz2_1
          have e02 := fun (x : After M) => (x.cell gM 2 hg2_).trans hz2_2
          have e10 := fun (x : After M) => (x.cell gM 3 hg2_).trans hz3_0
          have e11 := fun (x : After M) => (x.cell gM 4 hg2_).trans hz3_1
          have e12 := fun (x : After M) => (x.cell gM 5 hg2_).trans hz3_2
          have is := After.some M
          refine wp_region_after_tail 9 (by kernel_rfl) (by kernel_rfl) ?_
          simp only [List.take_succ_cons, List.take_zero, List.drop_succ_cons, List.drop_zero]
          repeat (quiet_step ((go_at_call 89; exact HC.out _)))
          refine wpQuiet_nil ?_
          intro Wq hw
          have hbq : Below M.heap.size M Wq := by obtain ⟨x, rfl⟩ := hw; exact x.below
          have HSX := Lib.hid (HSM.out.on hbq)
          clear e00 e01 e02 e10 e11 e12 is hw hbq HC
          clear lt c0 c1 c2 c3 c4 c5 c6 c7 c8 ltR t0 t1 t2 tf
          obtain ⟨lt, c0, c1, c2, c3, c4, c5, c6, c7, c8⟩ := HSX.out.e
          obtain ⟨ltR, t0, t1, t2, tf⟩ := HSX.out.t
          have TT := Lib.hid (HSX.out.t.all rk rn rs)
          have HE := Lib.hid (ext_val HSX.out.b (by have := HGR.out; have := HGW.out; omega : w.heap.size ≤ r) rk rn rs)
          go_wp2_with fail
          obtain ⟨Q, hQ⟩ : ∃ X', X' = (((Wq.setCell ⟨r, 0, none⟩ (.int .i64 rk)).setCell ⟨r, 1, none⟩ (.int .i64 rn)).setCell ⟨r, 2, none⟩ (.string rs)) := ⟨_, rfl⟩
          rw [← hQ] at TT HE
          rw [← hQ]
          obtain ⟨-, y0, y1, y2, -⟩ := TT.out
          refine bodyPost_ret (v := .tuple #[.agg #[.int .i64 rk, .int .i64 rn, .string rs], .int .i64 er]) (by simp [results, Tryd.results66, go_sem, y0, y1, y2]) rfl ⟨by rw [HQ.out], HE.out⟩
        · skip
          have HC := Lib.hid (fun (x : After M) => calls_after (show Calls Tryd.prog 91 #[(⟨rk0, rn0, rs0⟩ : Val).v, (⟨rk1, rn1, rs1⟩ : Val).v] x.W (fun e w' => e = .returned (.tuple #[.agg #[.int .i64 rk, .int .i64 rn, .string rs], .int .i64 er]) ∧ Below x.W.heap.size x.W w') by
            have h := rand_any (⟨rk0, rn0, rs0⟩ : Val) (⟨rk1, rn1, rs1⟩ : Val) x.W
            rw [show conn 0 1 (⟨rk0, rn0, rs0⟩ : Val) (⟨rk1, rn1, rs1⟩ : Val) = (⟨rk, rn, rs⟩, er) from HZ.out.symm] at h
            exact h))
          go_upto_region 28 with fail
          have e00 := fun (x : After M) => (x.cell gM 0 hg2_).trans hz2_0
          have e01 := fun (x : After M) => (x.cell gM 1 hg2_).trans hz2_1
          have e02 := fun (x : After M) => (x.cell gM 2 hg2_).trans hz2_2
          have e10 := fun (x : After M) => (x.cell gM 3 hg2_).trans hz3_0
          have e11 := fun (x : After M) => (x.cell gM 4 hg2_).trans hz3_1
          have e12 := fun (x : After M) => (x.cell gM 5 hg2_).trans hz3_2
          have is := After.some M
          refine wp_region_after_tail 9 (by kernel_rfl) (by kernel_rfl) ?_
          simp only [List.take_succ_cons, List.take_zero, List.drop_succ_cons, List.drop_zero]
          repeat (quiet_step ((go_at_call 91; exact HC.out _)))
          refine wpQuiet_nil ?_
          intro Wq hw
          have hbq : Below M.heap.size M Wq := by obtain ⟨x, rfl⟩ := hw; exact x.below
          have HSX := Lib.hid (HSM.out.on hbq)
          clear e00 e01 e02 e10 e11 e12 is hw hbq HC
          clear lt c0 c1 c2 c3 c4 c5 c6 c7 c8 ltR t0 t1 t2 tf
          obtain ⟨lt, c0, c1, c2, c3, c4, c5, c6, c7, c8⟩ := HSX.out.e
          obtain ⟨ltR, t0, t1, t2, tf⟩ := HSX.out.t
          have TT := Lib.hid (HSX.out.t.all rk rn rs)
          have HE := Lib.hid (ext_val HSX.out.b (by have := HGR.out; have := HGW.out; omega : w.heap.size ≤ r) rk rn rs)
          go_wp2_with fail
          obtain ⟨Q, hQ⟩ : ∃ X', X' = (((Wq.setCell ⟨r, 0, none⟩ (.int .i64 rk)).setCell ⟨r, 1, none⟩ (.int .i64 rn)).setCell ⟨r, 2, none⟩ (.string rs)) := ⟨_, rfl⟩
          rw [← hQ] at TT HE
          rw [← hQ]
          obtain ⟨-, y0, y1, y2, -⟩ := TT.out
          refine bodyPost_ret (v := .tuple #[.agg #[.int .i64 rk, .int .i64 rn, .string rs], .int .i64 er]) (by simp [results, Tryd.results66, go_sem, y0, y1, y2]) rfl ⟨by rw [HQ.out], HE.out⟩
        · skip
          have HC := Lib.hid (fun (x : After M) => calls_after (show Calls Tryd.prog 92 #[(⟨rk0, rn0, rs0⟩ : Val).v, (⟨rk1, rn1, rs1⟩ : Val).v] x.W (fun e w' => e = .returned (.tuple #[.agg #[.int .i64 rk, .int .i64 rn, .string rs], .int .i64 er]) ∧ Below x.W.heap.size x.W w') by
            have h := ror_any (⟨rk0, rn0, rs0⟩ : Val) (⟨rk1, rn1, rs1⟩ : Val) x.W
            rw [show conn 1 0 (⟨rk0, rn0, rs0⟩ : Val) (⟨rk1, rn1, rs1⟩ : Val) = (⟨rk, rn, rs⟩, er) from HZ.out.symm] at h
            exact h))
          go_upto_region 30 with fail
          have e00 := fun (x : After M) => (x.cell gM 0 hg2_).trans hz2_0
          have e01 := fun (x : After M) => (x.cell gM 1 hg2_).trans hz2_1
          have e02 := fun (x : After M) => (x.cell gM 2 hg2_).trans hz2_2
          have e10 := fun (x : After M) => (x.cell gM 3 hg2_).trans hz3_0
          have e11 := fun (x : After M) => (x.cell gM 4 hg2_).trans hz3_1
          have e12 := fun (x : After M) => (x.cell gM 5 hg2_).trans hz3_2
          have is := After.some M
          refine wp_region_after_tail 9 (by kernel_rfl) (by kernel_rfl) ?_
          simp only [List.take_succ_cons, List.take_zero, List.drop_succ_cons, List.drop_zero]
          repeat (quiet_step ((go_at_call 92; exact HC.out _)))
          refine wpQuiet_nil ?_
          intro Wq hw
          have hbq : Below M.heap.size M Wq := by obtain ⟨x, rfl⟩ := hw; exact x.below
          have HSX := Lib.hid (HSM.out.on hbq)
          clear e00 e01 e02 e10 e11 e12 is hw hbq HC
          clear lt c0 c1 c2 c3 c4 c5 c6 c7 c8 ltR t0 t1 t2 tf
          obtain ⟨lt, c0, c1, c2, c3, c4, c5, c6, c7, c8⟩ := HSX.out.e
          obtain ⟨ltR, t0, t1, t2, tf⟩ := HSX.out.t
          have TT := Lib.hid (HSX.out.t.all rk rn rs)
          have HE := Lib.hid (ext_val HSX.out.b (by have := HGR.out; have := HGW.out; omega : w.heap.size ≤ r) rk rn rs)
          go_wp2_with fail
          obtain ⟨Q, hQ⟩ : ∃ X', X' = (((Wq.setCell ⟨r, 0, none⟩ (.int .i64 rk)).setCell ⟨r, 1, none⟩ (.int .i64 rn)).setCell ⟨r, 2, none⟩ (.string rs)) := ⟨_, rfl⟩
          rw [← hQ] at TT HE
          rw [← hQ]
          obtain ⟨-, y0, y1, y2, -⟩ := TT.out
          refine bodyPost_ret (v := .tuple #[.agg #[.int .i64 rk, .int .i64 rn, .string rs], .int .i64 er]) (by simp [results, Tryd.results66, go_sem, y0, y1, y2]) rfl ⟨by rw [HQ.out], HE.out⟩
        · have HTS := Lib.hid (show applyS op (⟨rk0, rn0, rs0⟩ : Val) (⟨rk1, rn1, rs1⟩ : Val) = testS op (⟨rk0, rn0, rs0⟩ : Val) (⟨rk1, rn1, rs1⟩ : Val) by unfold applyS; rw [if_neg (by omega), if_neg (by omega), if_neg (by omega), if_neg (by omega), if_neg (by omega), if_neg (by omega), if_neg (by omega), if_neg (by omega), if_neg (by omega)])
          have q4 : (op == 4) = false := by rw [beq_eq_false_iff_ne]; omega
          have q5 : (op == 5) = false := by rw [beq_eq_false_iff_ne]; omega
          have q6 : (op == 6) = false := by rw [beq_eq_false_iff_ne]; omega
          have q7 : (op == 7) = false := by rw [beq_eq_false_iff_ne]; omega
          have q8 : (op == 8) = false := by rw [beq_eq_false_iff_ne]; omega
          have q15 : (op == 15) = false := by rw [beq_eq_false_iff_ne]; omega
          have q16 : (op == 16) = false := by rw [beq_eq_false_iff_ne]; omega
          have q17 : (op == 17) = false := by rw [beq_eq_false_iff_ne]; omega
          have q18 : (op == 18) = false := by rw [beq_eq_false_iff_ne]; omega
          clear h9 h14
          have HC := Lib.hid (fun (x : After M) => calls_after (show Calls Tryd.prog 95 #[.int .i64 op, (⟨rk0, rn0, rs0⟩ : Val).v, (⟨rk1, rn1, rs1⟩ : Val).v] x.W (fun e w' => e = .returned (.tuple #[.agg #[.int .i64 rk, .int .i64 rn, .string rs], .int .i64 er]) ∧ Below x.W.heap.size x.W w') by
            have h := rtest_any op (⟨rk0, rn0, rs0⟩ : Val) (⟨rk1, rn1, rs1⟩ : Val) x.W
            rw [show testS op (⟨rk0, rn0, rs0⟩ : Val) (⟨rk1, rn1, rs1⟩ : Val) = (⟨rk, rn, rs⟩, er) from HTS.out.symm.trans HZ.out.symm] at h
            exact h))
          go_upto_region 35 with fail
          have e00 := fun (x : After M) => (x.cell gM 0 hg2_).trans hz2_0
          have e01 := fun (x : After M) => (x.cell gM 1 hg2_).trans hz2_1
          have e02 := fun (x : After M) => (x.cell gM 2 hg2_).trans hz2_2
          have e10 := fun (x : After M) => (x.cell gM 3 hg2_).trans hz3_0
          have e11 := fun (x : After M) => (x.cell gM 4 hg2_).trans hz3_1
          have e12 := fun (x : After M) => (x.cell gM 5 hg2_).trans hz3_2
          have q0 := fun (x : After M) => (x.cell g 0 lt).trans c0
          have is := After.some M
          refine wp_region_after_tail 11 (by kernel_rfl) (by kernel_rfl) ?_
          simp only [List.take_succ_cons, List.take_zero, List.drop_succ_cons, List.drop_zero]
          repeat (quiet_step ((go_at_call 95; exact HC.out _)))
          refine wpQuiet_nil ?_
          intro Wq hw
          have hbq : Below M.heap.size M Wq := by obtain ⟨x, rfl⟩ := hw; exact x.below
          have HSX := Lib.hid (HSM.out.on hbq)
          clear e00 e01 e02 e10 e11 e12 is hw hbq HC q0
          clear lt c0 c1 c2 c3 c4 c5 c6 c7 c8 ltR t0 t1 t2 tf
          obtain ⟨lt, c0, c1, c2, c3, c4, c5, c6, c7, c8⟩ := HSX.out.e
          obtain ⟨ltR, t0, t1, t2, tf⟩ := HSX.out.t
          have TT := Lib.hid (HSX.out.t.all rk rn rs)
          have HE := Lib.hid (ext_val HSX.out.b (by have := HGR.out; have := HGW.out; omega : w.heap.size ≤ r) rk rn rs)
          go_wp2_with fail
          obtain ⟨Q, hQ⟩ : ∃ X', X' = (((Wq.setCell ⟨r, 0, none⟩ (.int .i64 rk)).setCell ⟨r, 1, none⟩ (.int .i64 rn)).setCell ⟨r, 2, none⟩ (.string rs)) := ⟨_, rfl⟩
          rw [← hQ] at TT HE
          rw [← hQ]
          obtain ⟨-, y0, y1, y2, -⟩ := TT.out
          refine bodyPost_ret (v := .tuple #[.agg #[.int .i64 rk, .int .i64 rn, .string rs], .int .i64 er]) (by simp [results, Tryd.results66, go_sem, y0, y1, y2]) rfl ⟨by rw [HQ.out], HE.out⟩
      · have hne : (er1 != 0) = true := by simpa using he1
        have HQ := Lib.hid (show evalE cols ps (.mk op v rel col n s [(Ex.mk op1 v1 rel1 col1 n1 s1 l1), (Ex.mk op2 v2 rel2 col2 n2 s2 l2)]) = (zeroVal, er1) by rw [eval_op H4.out, evalL_ok (by rw [HR0.out]), evalL_bad (by rw [HR1.out]; exact he1), HR1.out])
        clear he1
        have TT := Lib.hid ((HSZ.out.t.all 0 0 ⟨#[]⟩).on (ext_alloc (ext_refl _) (.cells #[.int .i64 rk1, .int .i64 rn1, .string rs1] 23)))
        have HE := Lib.hid (ext_alloc (ext_val HSZ.out.b (by have := HGR.out; have := HGW.out; omega : w.heap.size ≤ r) 0 0 ⟨#[]⟩) (.cells #[.int .i64 rk1, .int .i64 rn1, .string rs1] 23))
        go_wp2_with fail
        obtain ⟨Q, hQ⟩ : ∃ X', X' = ((((Z.setCell ⟨r, 0, none⟩ (.int .i64 0)).setCell ⟨r, 1, none⟩ (.int .i64 0)).setCell ⟨r, 2, none⟩ (.string ⟨#[]⟩))).alloc (.cells #[.int .i64 rk1, .int .i64 rn1, .string rs1] 23) := ⟨_, rfl⟩
        rw [← hQ] at TT HE
        rw [← hQ]
        obtain ⟨-, y0, y1, y2, -⟩ := TT.out
        refine bodyPost_ret (v := .tuple #[.agg #[.int .i64 0, .int .i64 0, .string ⟨#[]⟩], .int .i64 er1]) (by simp [results, Tryd.results66, go_sem, y0, y1, y2]) rfl ⟨by rw [HQ.out]; rfl, HE.out⟩
    · have hne : (er0 != 0) = true := by simpa using he0
      have HQ := Lib.hid (show evalE cols ps (.mk op v rel col n s [(Ex.mk op1 v1 rel1 col1 n1 s1 l1), y1]) = (zeroVal, er0) by rw [eval_op H4.out, evalL_bad (by rw [HR0.out]; exact he0), HR0.out])
      clear he0
      have TT := Lib.hid ((HSY.out.t.all 0 0 ⟨#[]⟩).on (ext_alloc (ext_refl _) (.cells #[.int .i64 rk0, .int .i64 rn0, .string rs0] 23)))
      have HE := Lib.hid (ext_alloc (ext_val HSY.out.b (by have := HGR.out; have := HGW.out; omega : w.heap.size ≤ r) 0 0 ⟨#[]⟩) (.cells #[.int .i64 rk0, .int .i64 rn0, .string rs0] 23))
      go_wp2_with fail
      obtain ⟨Q, hQ⟩ : ∃ X', X' = ((((Y.setCell ⟨r, 0, none⟩ (.int .i64 0)).setCell ⟨r, 1, none⟩ (.int .i64 0)).setCell ⟨r, 2, none⟩ (.string ⟨#[]⟩))).alloc (.cells #[.int .i64 rk0, .int .i64 rn0, .string rs0] 23) := ⟨_, rfl⟩
      rw [← hQ] at TT HE
      rw [← hQ]
      obtain ⟨-, y0, y1, y2, -⟩ := TT.out
      refine bodyPost_ret (v := .tuple #[.agg #[.int .i64 0, .int .i64 0, .string ⟨#[]⟩], .int .i64 er0]) (by simp [results, Tryd.results66, go_sem, y0, y1, y2]) rfl ⟨by rw [HQ.out]; rfl, HE.out⟩
  · exfalso
    have h1 := head_two HH.out
    rw [HLEN.out] at h1
    simp only [List.length_cons] at h1
    omega

theorem revC_any : ∀ (k : Nat) (x : Ex), x.deep ≤ k → x.okAll = true → REvC x
  | 0, x, h, _ => absurd (deep_pos x) (by omega)
  | k + 1, .mk op v rel col n s l, h, ho => by
    rw [Ex.okAll, Bool.and_eq_true] at ho
    exact revC_mk op v rel col n s l ho.1 fun y hy => revC_any k y (by rw [Ex.deep] at h; have := deepL_of_mem hy; omega) (by obtain ⟨i, hi, he⟩ := List.getElem_of_mem hy; exact okL_all ho.2 (i := i) (by rw [List.getElem?_eq_getElem hi, he]))

end Go.Proofs.YthdnbcdcfaocmaaDoor
