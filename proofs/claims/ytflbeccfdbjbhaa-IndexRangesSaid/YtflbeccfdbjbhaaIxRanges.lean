/- IndexRanges: all rows stand in the order of their values; a range are those between, in the same order: the law answers true, whatever the values. -/
import Derived.Test.YtflbeccfdbjbhaaIxV
namespace Go.Proofs.Ytflbeccfdbjbhaa
open Go.ChangeShapes Go.WideShapes Go.ChangeAt Go.RowKit Go.Joins
set_option maxRecDepth 100000

section
variable {α : Type} {cells : α → List Value} {sz : Nat}
/-- An append to a slice of the call's own, and where the new slice lies. -/
theorem wp_append_lie {w : World} {ops : Array Oper} {rest : List Oper} {o : Oper} {a : Act} {Q : Exit → Act → World → Prop} (hgd : o.guard = none) (s x : Operand) (T E : TypeId) (ho : o.op = .call { callee := .builtin .append, args := #[s, x], argTypes := #[T, T] })
    (hT : Try.prog.underlying T = some (.slice E)) (z : Value) (bytes : Nat) (hI : (Try.prog.info? E).map (fun i => (i.zero, i.size, i.bytes)) = some (some z, sz, bytes)) (hzs : z.cells.size = sz) (h0 : 0 < sz)
    (hcl : ∀ x : α, (cells x).length = sz) (h1 : ∀ (x : α) (u : Value), u ∈ cells x → u.oneCell' = true)
    (base : Nat) (v : Value) (l : List α) (hs : a.eval s = v) (hown : OwnF w base E sz cells v l) (p : Option Addr) (n c : Nat) (m : List α) (hn : n = m.length) (hx : a.eval x = .slice p n c)
    (lo hi : Nat) (hR : ArrA lo hi p sz m (fun g o x => ∀ (k : Nat) u, (cells x)[k]? = some u → w.cell? ⟨g, o + k, none⟩ = some u)) (hlen : l.length + m.length ≤ maxLen) (hbytes : (l.length + m.length) * bytes ≤ 140737488355328) (hbase : base ≤ w.heap.size)
    (h : ∀ v' w', OwnF w' base E sz cells v' (l ++ m) → Below base w w' → Out (fun k => v.ownBlock = some k) w w' → (v'.ownBlock = v.ownBlock ∨ v'.ownBlock = some w.heap.size) → wpList Try.prog ops Q rest (a.put o.dst v') w') : wpList Try.prog ops Q (o :: rest) a w := by
  obtain ⟨v', w', hr, h2, h3, h4, h5⟩ := run_append_flat w T E o.type hT z bytes hI hzs h0 hcl h1 base v l hown p n c m hn lo hi hR hlen hbytes hbase
  refine wpList_plain hgd fun K hK => ?_
  unfold Oper.wp execOp
  simp only [ho, resolve, invoke, builtin, Sem.run_bind, Sem.run_pure, Result.andThen_ok, List.map_toArray, List.map_cons, List.map_nil, hs, hx, hr]
  exact hK _ _ (h v' w' h2 h3 h4 h5)
end

/-- Those places, of the first i in the order, for which f holds. -/
def selP (f : Nat → Bool) (l : List Val) (i : Nat) : List Nat := ((allP l).take i).filter f
theorem selP_step {f : Nat → Bool} {l : List Val} {i m : Nat} (h : (allP l)[i]? = some m) : selP f l (i + 1) = selP f l i ++ if f m then [m] else [] := by
  unfold selP
  rw [List.take_add_one, h, List.filter_append]
  congr 1
  simp only [Option.toList_some, List.filter_cons, List.filter_nil]
theorem selP_len (f : Nat → Bool) (l : List Val) (i : Nat) : (selP f l i).length ≤ l.length := by
  unfold selP
  refine Nat.le_trans (List.length_filter_le _ _) ?_
  rw [List.length_take, allP_len]
  omega
theorem selP_all (f : Nat → Bool) (l : List Val) : selP f l l.length = (allP l).filter f := by unfold selP; rw [← allP_len, List.take_length]
abbrev fSome (l : List Val) (i : Nat) : Bool := decide ((valAt l i).k ≠ 0)
abbrev fWant (l : List Val) (lo hi : Val) (i : Nat) : Bool := decide ((valAt l i).k ≠ 0) && okLo (some lo) (valAt l i) && okHi (some hi) (valAt l i)
theorem range_want (l : List Val) (lo hi : Val) : rangeP l (some lo) (some hi) = (allP l).filter (fWant l lo hi) := rangeP_eq _ _ _
theorem range_some (l : List Val) : rangeP l none none = (allP l).filter (fSome l) := by
  rw [rangeP_eq]
  refine List.filter_congr fun i _ => ?_
  simp [okLo, okHi]

abbrev oneR (x : Val) : List Val := [x]

set_option maxHeartbeats 16000000 in
theorem ranges_walk (vals : List Val) (q : Option Addr) (c : Nat) (lo hi : Val) (w : World) (_ : vals.length ≤ c) (_ : c ≤ 9223372036854775807) (hV : ValsA w 0 w.heap.size q vals) (hf : ∀ v ∈ vals, FitV v) :
    Calls Try.prog 4 #[.slice q vals.length c, lo.v, hi.v] w fun e w' => e = .returned (.bool true) ∧ Below w.heap.size w w' := by
  obtain ⟨n, hn⟩ : ∃ n, n = min vals.length 60 := ⟨_, rfl⟩
  have hn60 : n ≤ 60 := by omega
  have hnl : n ≤ vals.length := by omega
  have hnm : n < vals.length → n = 60 := by omega
  obtain ⟨l, hl⟩ : ∃ l, l = vals.take n := ⟨_, rfl⟩
  have hll : l.length = n := by rw [hl, List.length_take]; omega
  have hlf : ∀ v ∈ l, FitV v := fun v hv => hf v (List.mem_of_mem_take (by rw [hl] at hv; exact hv))
  obtain ⟨W0, hW0⟩ : ∃ W0, W0 = (w.alloc (.cells #[.int .i64 lo.k, .int .i64 lo.n, .string lo.s] 24)).alloc (.cells #[.int .i64 hi.k, .int .i64 hi.n, .string hi.s] 24) := ⟨_, rfl⟩
  have hB0 : Below w.heap.size w W0 := by rw [hW0]; (repeat (first | exact ext_refl _ | assumption | (refine ext_alloc ?_ _) | (refine ext_drewN ?_ _) | refine ext_drew ?_ | (refine ext_set (by first | (simp; done) | (simp; omega)) _ ?_) | (refine ext_trans ?_ (by assumption))))
  have hz : w.heap.size + 1 < W0.heap.size := by rw [hW0]; simp
  have b0 : W0.heap[w.heap.size]? = some (.cells #[.int .i64 lo.k, .int .i64 lo.n, .string lo.s] 24 (0, 0)) := by rw [hW0]; exact alloc_old (heap_alloc_new _ _)
  have b1 : W0.heap[w.heap.size + 1]? = some (.cells #[.int .i64 hi.k, .int .i64 hi.n, .string hi.s] 24 (0, 0)) := by rw [hW0]; exact alloc_new (by simp)
  have HW := Lib.hid hW0
  have HB0 := Lib.hid hB0
  have HO := Lib.hid (And.intro b0 b1)
  have HV := Lib.hid (hV.same (Same.of hB0 (Nat.le_refl _)))
  have HF := Lib.hid hlf
  have HL := Lib.hid hl
  have HLL := Lib.hid hll
  clear hn hV hf hlf hl hll hW0 hB0 b0 b1
  obtain ⟨lk, ln, ls⟩ := lo
  obtain ⟨hk, hn, hs⟩ := hi
  go_enter Try.func4, Try.ntmps4
  go_upto_region 1 with fail
  rw [← HW.out]
  clear HW
  go_wp2_with fail
  refine (ex6_any _).mono ?_
  rintro e W1 ⟨rfl, hb1⟩
  have hs1 := hb1.size
  have HB1 := Lib.hid hb1
  clear hb1
  go_upto_block 0 with fail
  go_cut [8, 9] (fun v _ wc => ∃ q2 c2, v = .slice q2 n c2 ∧ Hid (n ≤ c2 ∧ c2 ≤ 9223372036854775807 ∧ RowsA wc W1.heap.size wc.heap.size q2 (rowsOf oneR l) ∧ Below W1.heap.size W1 wc))
  case first =>
    go_wp2_with fail
    go_loopw [9, 8] (fun vi vo wr => ∃ i : Nat, vi = .int .i64 i ∧ i ≤ n ∧ (∃ (q : Option Addr) (n k : Nat), vo = .slice q n k) ∧ Hid (Own2 wr W1.heap.size 22 24 3 vCell vo (rowsOf oneR (vals.take i)) ∧ Below W1.heap.size W1 wr)) (fun vi _ _ => n - (intOf vi).toNat)
    case atStart => exact ⟨0, rfl, Nat.zero_le _, ⟨_, _, _, rfl⟩, Own2.nil _ _ _ _ _ _ _ (OwnF.nil _ _ _), Below.refl _ _⟩
    case round =>
      obtain ⟨i, rfl, hi, ⟨q0, n0, k0, rfl⟩, HH⟩ := hrel
      obtain ⟨V, hV⟩ : ∃ V, V = wr := ⟨_, rfl⟩
      subst hV
      have hsV := HH.out.2.size
      by_cases hlt : i < n
      · obtain ⟨g, off, rfl, hg1, hg2, hcA⟩ := ((HV.out.same (Same.of (HB1.out.mono (by omega)) (Nat.le_refl _))).same (Same.of HH.out.2 (by omega))) i (by omega)
        obtain ⟨x, hx⟩ : ∃ x, vals[i]? = some x := ⟨_, List.getElem?_eq_getElem (by omega)⟩
        obtain ⟨e0, e1, e2⟩ := hcA i x hx
        have HX := Lib.hid hx
        clear hcA hx
        obtain ⟨xk, xn, xs⟩ := x
        obtain ⟨K, hK1, hK2, hK3⟩ := HH.out.1.outer
        obtain ⟨X, hX⟩ : ∃ X, X = (V.alloc (.cells #[.int .i64 xk, .int .i64 xn, .string xs] 24)).alloc (.cells #[.slice (some ⟨V.heap.size, 0, none⟩) 1 1] 22) := ⟨_, rfl⟩
        have hbX : Below V.heap.size V X := by rw [hX]; (repeat (first | exact ext_refl _ | assumption | (refine ext_alloc ?_ _) | (refine ext_drewN ?_ _) | refine ext_drew ?_ | (refine ext_set (by first | (simp; done) | (simp; omega)) _ ?_) | (refine ext_trans ?_ (by assumption))))
        have OO := Lib.hid (show OwnF X W1.heap.size 22 1 rawCell (.slice q0 n0 k0) K from hK1.later hbX)
        have OK := Lib.hid (show ∀ (j : Nat) (r : Raw) (l : List Val), K[j]? = some r → (rowsOf oneR (vals.take i))[j]? = some l → r.2.1 = l.length ∧ OwnF X W1.heap.size 24 3 vCell (.slice r.1 r.2.1 r.2.2) l from fun j r l hr hl => ⟨(hK3 j r l hr hl).1, (hK3 j r l hr hl).2.later hbX⟩)
        have ON := Lib.hid (show OwnF X W1.heap.size 24 3 vCell (.slice (some ⟨V.heap.size, 0, none⟩) 1 1) (oneR ⟨xk, xn, xs⟩) from OwnF.whole (l := oneR ⟨xk, xn, xs⟩) vCell_len (by rw [hX]; exact alloc_old (heap_alloc_new _ _)) hsV rfl (by unfold maxLen; simp))
        have HKL := Lib.hid hK2
        have hKn : K.length ≤ 60 := by rw [hK2, rowsOf_len, List.length_take]; omega
        have HE := Lib.hid (show Below W1.heap.size W1 X from HH.out.2.trans (hbX.mono hsV))
        have HR1 : Hid (ArrA 0 (V.heap.size + 1 + 1) (some ⟨V.heap.size + 1, 0, none⟩) 1 [((some ⟨V.heap.size, 0, none⟩, 1, 1) : Raw)] (fun g o r => ∀ (k : Nat) u, (rawCell r)[k]? = some u → X.cell? ⟨g, o + k, none⟩ = some u)) := Lib.hid (by rw [hX]; exact one_block rawCell_len _ _ _ rfl _ (by simp))
        have HXX := Lib.hid hX
        clear hK1 hK2 hK3 hbX hX HH
        go_wp2_with (at_builtin; rw [← HXX.out]; refine wp_append_flat rfl _ _ 26 22 rfl Try.underlying26 _ 24 Try.infoRowX rfl (by omega) rawCell_len rawCell_one W1.heap.size _ K rfl OO.out _ _ _ [((some ⟨V.heap.size, 0, none⟩, 1, 1) : Raw)] rfl rfl 0 (V.heap.size + 1 + 1) HR1.out ?l1 ?l2 HE.out.size ?_)
        case l1 => unfold maxLen; simp; omega
        case l2 => show (K.length + 1) * 24 ≤ 140737488355328; omega
        intro v3 w3 O3 b3 o3
        obtain ⟨q3, c3, rfl, -⟩ := O3.arr rawCell_len
        have NX := Own2.push (L := rowsOf oneR (vals.take i)) (l := oneR ⟨xk, xn, xs⟩) (by decide) OO.out HKL.out OK.out ON.out rfl O3 o3
        have e3 : rowsOf oneR (vals.take i) ++ [oneR ⟨xk, xn, xs⟩] = rowsOf oneR (vals.take (i + 1)) := by rw [List.take_add_one, HX.out]; simp
        rw [e3] at NX
        have NX := Lib.hid (And.intro NX (HE.out.trans b3))
        clear O3 b3 o3 OO OK ON HE HR1 HXX HKL e3
        go_wp2_with fail
        go_roundw
        case rel => exact ⟨i + 1, by go_num, hlt, ⟨_, _, _, rfl⟩, NX⟩
        case measure => simp [intOf] <;> omega
      · have hin : n = i := by omega
        subst hin
        obtain ⟨h1, h2⟩ := HH.out
        rw [← HL.out] at h1
        obtain ⟨q3, c3, e3, k1, k2, k3⟩ := h1.rowsA
        rw [rowsOf_len, HLL.out] at e3 k1
        simp only [Value.slice.injEq] at e3
        obtain ⟨e4, e5, e6⟩ := e3
        subst e4 e6
        rw [e5]
        clear e5
        have R := Lib.hid (And.intro k1 (And.intro k2 (And.intro k3 h2)))
        clear h1 h2 k1 k2 k3 HH
        by_cases h60 : n < vals.length
        · have hq1 : (n : Int) < (vals.length : Int) := by omega
          have hq2 : ¬ (n : Int) < 60 := by have := hnm h60; omega
          clear h60 hnm
          go_wp2_with fail
          go_meet
          exact ⟨_, _, rfl, R⟩
        · have hq1 : ¬ (n : Int) < (vals.length : Int) := by omega
          clear hnm
          go_wp2_with fail
          go_meet
          exact ⟨_, _, rfl, R⟩
  case rest =>
    obtain ⟨q2, c2, rfl, H2⟩ := hcut
    obtain ⟨U, hU⟩ : ∃ U, U = wc := ⟨_, rfl⟩
    subst hU
    have BU := Lib.hid (build_any (rowsOf oneR l) 0 q2 c2 W1.heap.size U.heap.size U (by rw [rowsOf_len, HLL.out]; exact H2.out.1) H2.out.2.1 (by rw [rowsOf_len, HLL.out]; omega) H2.out.2.2.1 (Nat.le_refl _)
      (fun r hr => by obtain ⟨x, _, rfl⟩ := List.mem_map.1 hr; simp) (by omega)
      (fun r hr v hv => by
        obtain ⟨x, hx, rfl⟩ := List.mem_map.1 hr
        simp only [oneR, List.mem_cons, List.not_mem_nil, or_false] at hv
        subst hv
        exact HF.out _ hx))
    rw [rowsOf_col (fun x => rfl), rowsOf_len, HLL.out] at BU
    clear hnm hnl HL HV
    go_wp2_with fail
    refine (BU.out).mono ?_
    rintro e W3 ⟨⟨p, rfl, hI⟩, hb3⟩
    have hsU := H2.out.2.2.2.size
    have RW := Lib.hid (H2.out.2.2.1.same (Same.of hb3 (Nat.le_refl _)))
    have B03 : Below W0.heap.size W0 W3 := HB1.out.trans ((H2.out.2.2.2.mono hs1).trans (hb3.mono (by omega)))
    have hs3 := B03.size
    have hs3U := hb3.size
    have AL := Lib.hid (all_any W3 _ p l hI)
    rw [allP_len, HLL.out] at AL
    have IX := Lib.hid hI
    have BW := Lib.hid B03
    have hc2 : n ≤ c2 ∧ c2 ≤ 9223372036854775807 := ⟨H2.out.1, H2.out.2.1⟩
    clear hI hb3 B03 BU H2 HB1
    go_wp2_with fail
    refine (AL.out).mono ?_
    rintro e W5 ⟨⟨qa, ca, rfl, hOA⟩, hb5⟩
    have hs5 := hb5.size
    have B5 := Lib.hid hb5
    have OA := Lib.hid hOA
    have hca : n ≤ ca ∧ ca ≤ 9223372036854775807 := ⟨by have := hOA.le; rwa [toInts_len, allP_len, HLL.out] at this, hOA.le2⟩
    clear AL hOA hb5
    go_wp2_with fail
    go_loopw [15, 13, 14] (fun vi vw vs wr => ∃ i : Nat, vi = .int .i64 i ∧ i ≤ n ∧ (∃ (q : Option Addr) (m c : Nat), vw = .slice q m c) ∧ (∃ (q : Option Addr) (m c : Nat), vs = .slice q m c) ∧
      Hid (OwnN wr W5.heap.size vw (toInts (selP (fWant l ⟨lk, ln, ls⟩ ⟨hk, hn, hs⟩) l i)) ∧ OwnN wr W5.heap.size vs (toInts (selP (fSome l) l i)) ∧ (∀ k, vw.ownBlock = some k → vs.ownBlock ≠ some k) ∧ Below W5.heap.size W5 wr)) (fun vi _ _ _ => n - (intOf vi).toNat)
    case atStart => exact ⟨0, rfl, Nat.zero_le _, ⟨_, _, _, rfl⟩, ⟨_, _, _, rfl⟩, OwnF.nil _ _ _, OwnF.nil _ _ _, (fun k hk => by cases hk), Below.refl _ _⟩
    case round =>
      obtain ⟨i, rfl, hi', ⟨qw, mw, cw, rfl⟩, ⟨qs, ms, cs, rfl⟩, HR⟩ := hrel
      obtain ⟨V, hV⟩ : ∃ V, V = wr := ⟨_, rfl⟩
      subst hV
      have hsV := HR.out.2.2.2.size
      by_cases hlt : i < n
      · have hil : i < (allP l).length := by rw [allP_len, HLL.out]; exact hlt
        obtain ⟨m, hm⟩ : ∃ m, (allP l)[i]? = some m := ⟨_, List.getElem?_eq_getElem hil⟩
        have hml : m < l.length := allP_mem.1 (List.mem_of_getElem? hm)
        have hmn : m < n := by rw [← HLL.out]; exact hml
        obtain ⟨x, hx⟩ : ∃ x, l[m]? = some x := ⟨_, List.getElem?_eq_getElem hml⟩
        have hB5V : Below W5.heap.size W5 V := HR.out.2.2.2
        have hB3V : Below W3.heap.size W3 V := B5.out.trans (hB5V.mono hs5)
        obtain ⟨ga, oa, rfl, -, hga, hcA⟩ := (OA.out.arr.same (Same.of hB5V (Nat.le_refl _))) i (by rw [toInts_len]; exact hil)
        have d0 := hcA i (m : Int) (by unfold toInts; rw [List.getElem?_map, hm]; rfl)
        unfold intC at d0
        rw [Nat.mul_one] at d0
        obtain ⟨gr, orr, rfl, -, hgr, hcR⟩ := (RW.out.same (Same.of hB3V (by omega))) m (by rw [rowsOf_len, HLL.out]; exact hmn)
        obtain ⟨pr, cr, a0, a1, a2, hA⟩ := hcR m (oneR x) (by rw [List.getElem?_map, hx]; rfl)
        rw [Nat.mul_one] at a0
        obtain ⟨gv, ov, rfl, -, hgv, hcV⟩ := hA 0 (by simp)
        obtain ⟨e0, e1, e2⟩ := hcV 0 x rfl
        rw [Nat.zero_mul, Nat.add_zero] at e0 e1 e2
        have z1 : (m : Int) < (n : Int) := by omega
        have z2 : ¬ (m : Int) < 0 := by omega
        have z3 : ¬ (m : Int) ≥ (n : Int) := by omega
        have HM := Lib.hid (And.intro hm hx)
        clear hcA hcR hA hcV hm hx hil hml
        obtain ⟨xk, xn, xs⟩ := x
        obtain ⟨X, hX⟩ : ∃ X, X = V.alloc (.cells #[.int .i64 xk, .int .i64 xn, .string xs] 24) := ⟨_, rfl⟩
        have hbX : Below V.heap.size V X := by rw [hX]; (repeat (first | exact ext_refl _ | assumption | (refine ext_alloc ?_ _) | (refine ext_drewN ?_ _) | refine ext_drew ?_ | (refine ext_set (by first | (simp; done) | (simp; omega)) _ ?_) | (refine ext_trans ?_ (by assumption))))
        have xb : X.heap[V.heap.size]? = some (.cells #[.int .i64 xk, .int .i64 xn, .string xs] 24 (0, 0)) := by rw [hX]; exact heap_alloc_new _ _
        have hzX : V.heap.size < X.heap.size := by rw [hX]; simp
        have XB := Lib.hid (And.intro hbX (And.intro xb hzX))
        have H5 := Lib.hid (And.intro hB5V hB3V)
        go_upto_region 21 with fail
        rw [← hX]
        clear hX hbX xb hzX d0 a0 e0 e1 e2 hB5V hB3V z1 z2 z3
        go_upto_if 87 with fail
        go_cut [15] (fun v wc => v = .int .i64 (i : Int) ∧ Hid (wc.heap[V.heap.size]? = some (.cells #[.int .i64 xk, .int .i64 xn, .string xs] 24 (0, 0)) ∧ Below V.heap.size V wc ∧ V.heap.size < wc.heap.size))
        case first =>
          by_cases hi0 : 0 < i
          · obtain ⟨j, rfl⟩ : ∃ j, i = j + 1 := ⟨i - 1, by omega⟩
            have hjl : j < (allP l).length := by rw [allP_len, HLL.out]; omega
            obtain ⟨m', hm'⟩ : ∃ m', (allP l)[j]? = some m' := ⟨_, List.getElem?_eq_getElem hjl⟩
            have hml' : m' < l.length := allP_mem.1 (List.mem_of_getElem? hm')
            have hmn' : m' < n := by rw [← HLL.out]; exact hml'
            obtain ⟨x', hx'⟩ : ∃ x', l[m']? = some x' := ⟨_, List.getElem?_eq_getElem hml'⟩
            have hord : x'.cmp ⟨xk, xn, xs⟩ < 0 ∨ (x'.cmp ⟨xk, xn, xs⟩ = 0 ∧ m' < m) := by
              have hjl2 : j + 1 < (allP l).length := (List.getElem?_eq_some_iff.1 HM.out.1).1
              have h := List.pairwise_iff_getElem.1 (allP_sorted l) j (j + 1) hjl hjl2 (by omega)
              have e1 : (allP l)[j] = m' := (List.getElem?_eq_some_iff.1 hm').2
              have e2 : (allP l)[j + 1] = m := (List.getElem?_eq_some_iff.1 HM.out.1).2
              rw [e1, e2] at h
              unfold IxLt at h
              rw [valAt_get hx', valAt_get HM.out.2] at h
              exact h
            have hB5X : Below W5.heap.size W5 X := H5.out.1.trans (XB.out.1.mono hsV)
            have hB3X : Below W3.heap.size W3 X := H5.out.2.trans (XB.out.1.mono (by omega))
            obtain ⟨ga', oa', ea, -, hga', hcA⟩ := (OA.out.arr.same (Same.of hB5X (Nat.le_refl _))) j (by rw [toInts_len]; exact hjl)
            obtain ⟨rfl, rfl⟩ : ga = ga' ∧ oa = oa' := by simpa using ea
            have d0 := hcA j (m' : Int) (by unfold toInts; rw [List.getElem?_map, hm']; rfl)
            have d1 := hcA (j + 1) (m : Int) (by unfold toInts; rw [List.getElem?_map, HM.out.1]; rfl)
            unfold intC at d0 d1
            rw [Nat.mul_one] at d0 d1
            obtain ⟨gr', or', er, -, hgr', hcR⟩ := (RW.out.same (Same.of hB3X (by omega))) m' (by rw [rowsOf_len, HLL.out]; exact hmn')
            obtain ⟨rfl, rfl⟩ : gr = gr' ∧ orr = or' := by simpa using er
            obtain ⟨pr', cr', a0, a1', a2', hA⟩ := hcR m' (oneR x') (by rw [List.getElem?_map, hx']; rfl)
            rw [Nat.mul_one] at a0
            obtain ⟨gv', ov', rfl, -, hgv', hcV⟩ := hA 0 (by simp)
            obtain ⟨e0, e1, e2⟩ := hcV 0 x' rfl
            rw [Nat.zero_mul, Nat.add_zero] at e0 e1 e2
            have hXs := XB.out.1.size
            have r0 := fun (z : After X) => (z.cell ga (oa + j) (by omega)).trans d0
            have r1 := fun (z : After X) => (z.cell gr (orr + m') (by omega)).trans a0
            have r2 := fun (z : After X) => (z.cell gv' ov' (by omega)).trans e0
            have r3 := fun (z : After X) => (z.cell gv' (ov' + 1) (by omega)).trans e1
            have r4 := fun (z : After X) => (z.cell gv' (ov' + 2) (by omega)).trans e2
            have r5 := fun (z : After X) => (z.cell V.heap.size 0 XB.out.2.2).trans (show X.cell? ⟨V.heap.size, 0, none⟩ = some (.int .i64 xk) by rw [Lib.cell_of_heap XB.out.2.1]; rfl)
            have r6 := fun (z : After X) => (z.cell V.heap.size 1 XB.out.2.2).trans (show X.cell? ⟨V.heap.size, 1, none⟩ = some (.int .i64 xn) by rw [Lib.cell_of_heap XB.out.2.1]; rfl)
            have r7 := fun (z : After X) => (z.cell V.heap.size 2 XB.out.2.2).trans (show X.cell? ⟨V.heap.size, 2, none⟩ = some (.string xs) by rw [Lib.cell_of_heap XB.out.2.1]; rfl)
            have is := After.some X
            have z1 : (j : Int) < (n : Int) := by omega
            have z2 : (m' : Int) < (n : Int) := by omega
            have z5 : IntKind.i64.wrap (j : Int) = (j : Int) := by rw [IntKind.wrap_i64]; omega
            have z6 : IntKind.i64.wrap (m' : Int) = (m' : Int) := by rw [IntKind.wrap_i64]; omega
            have HD := Lib.hid (And.intro d0 d1)
            have CMP := fun W => compare_any x' ⟨xk, xn, xs⟩ W
            generalize x'.cmp ⟨xk, xn, xs⟩ = cm at CMP hord
            have CMP := Lib.hid CMP
            clear hcA hcR hA hcV a0 e0 e1 e2 d0 d1 ea er hm' hx' hml' hjl hB5X hB3X
            obtain ⟨xk', xn', xs'⟩ := x'
            go_wp2_with fail
            refine wp_region_after (by kernel_rfl) (by kernel_rfl) ?_
            repeat (quiet_step ((first | (go_at_call 11; exact calls_after (CMP.out _)))))
            refine wpQuiet_nil ?_
            intro W6 hw
            have hb6 : Below X.heap.size X W6 := by obtain ⟨y, rfl⟩ := hw; exact y.below
            have HW1 := Lib.hid hb6
            clear r0 r1 r2 r3 r4 r5 r6 r7 is CMP hw
            rcases hord with ho | ⟨ho, hmm⟩
            · have hq1 : decide (cm > 0) = false := decide_eq_false (by omega)
              have hq2 : (cm == 0) = false := by rw [beq_eq_false_iff_ne]; omega
              clear ho hb6
              go_wp2_with fail
              have hq3 : ¬ 0 < cm := of_decide_eq_false hq1
              go_big_quiet (fail)
              go_wp2_with fail
              go_meet
              exact ⟨rfl, (HW1.out.block V.heap.size XB.out.2.2).trans XB.out.2.1, XB.out.1.trans ((HW1.out.trans ((ext_drewN (ext_refl _) nq).mono HW1.out.size)).mono (Nat.le_of_lt XB.out.2.2)), Nat.lt_of_lt_of_le XB.out.2.2 (by simpa using HW1.out.size)⟩
            · subst ho
              have d0 := (hb6.cell (p := ⟨ga, oa + j, none⟩) (by show ga < _; omega)).trans HD.out.1
              have d1 := (hb6.cell (p := ⟨ga, oa + (j + 1), none⟩) (by show ga < _; omega)).trans HD.out.2
              have z7 : (j : Int) + 1 < (n : Int) := by omega
              clear hb6
              go_wp2_with fail
              have hq3 : ¬ (m' : Int) ≥ (m : Int) := by omega
              go_big_quiet (fail)
              go_wp2_with fail
              go_meet
              exact ⟨rfl, (HW1.out.block V.heap.size XB.out.2.2).trans XB.out.2.1, XB.out.1.trans ((HW1.out.trans ((ext_drewN (ext_refl _) nq).mono HW1.out.size)).mono (Nat.le_of_lt XB.out.2.2)), Nat.lt_of_lt_of_le XB.out.2.2 (by simpa using HW1.out.size)⟩
          · have hi00 : i = 0 := by omega
            subst hi00
            go_wp2_with fail
            go_meet
            exact ⟨rfl, XB.out.2.1, XB.out.1, XB.out.2.2⟩
        case rest =>
          obtain ⟨rfl, HY⟩ := hcut
          obtain ⟨Y, hY⟩ : ∃ Y, Y = wc := ⟨_, rfl⟩
          subst hY
          have hsY := HY.out.2.1.size
          have y0 : Y.cell? ⟨V.heap.size, 0, none⟩ = some (.int .i64 xk) := by rw [Lib.cell_of_heap HY.out.1]; rfl
          have hvx := valAt_get HM.out.2
          have hSW : selP (fWant l ⟨lk, ln, ls⟩ ⟨hk, hn, hs⟩) l (i + 1) = selP (fWant l ⟨lk, ln, ls⟩ ⟨hk, hn, hs⟩) l i ++ if (decide (xk ≠ 0) && decide (0 ≤ (⟨xk, xn, xs⟩ : Val).cmp ⟨lk, ln, ls⟩) && decide ((⟨xk, xn, xs⟩ : Val).cmp ⟨hk, hn, hs⟩ ≤ 0)) then [m] else [] := by
            rw [selP_step HM.out.1]
            unfold fWant okLo okHi
            rw [hvx]
          have hSS : selP (fSome l) l (i + 1) = selP (fSome l) l i ++ if decide (xk ≠ 0) then [m] else [] := by
            rw [selP_step HM.out.1]
            unfold fSome
            rw [hvx]
          have hb5Y : Below W5.heap.size W5 Y := H5.out.1.trans (HY.out.2.1.mono hsV)
          have SEL := Lib.hid (And.intro hSW hSS)
          have OWN := Lib.hid (show OwnN Y W5.heap.size (.slice qw mw cw) (toInts (selP (fWant l ⟨lk, ln, ls⟩ ⟨hk, hn, hs⟩) l i)) ∧ OwnN Y W5.heap.size (.slice qs ms cs) (toInts (selP (fSome l) l i)) ∧ (∀ k, (Value.slice qw mw cw).ownBlock = some k → (Value.slice qs ms cs).ownBlock ≠ some k) ∧ (∀ k, (Value.slice qs ms cs).ownBlock = some k → k < V.heap.size) ∧ Below W5.heap.size W5 Y from
            ⟨HR.out.1.later HY.out.2.1, HR.out.2.1.later HY.out.2.1, HR.out.2.2.1, fun k hk => (HR.out.2.1.lt k hk).2, hb5Y⟩)
          clear hSW hSS hvx hb5Y HR XB
          by_cases hk0 : xk = 0
          · have e1 : selP (fWant l ⟨lk, ln, ls⟩ ⟨hk, hn, hs⟩) l (i + 1) = selP (fWant l ⟨lk, ln, ls⟩ ⟨hk, hn, hs⟩) l i := by rw [SEL.out.1]; simp [hk0]
            have e2 : selP (fSome l) l (i + 1) = selP (fSome l) l i := by rw [SEL.out.2]; simp [hk0]
            have HE := Lib.hid (And.intro e1 e2)
            have hkb : (xk == 0) = true := by simpa using hk0
            clear e1 e2 hk0
            go_wp2_with fail
            go_roundw
            case rel => exact ⟨i + 1, by go_num, by omega, ⟨_, _, _, rfl⟩, ⟨_, _, _, rfl⟩, by rw [HE.out.1]; exact OWN.out.1, by rw [HE.out.2]; exact OWN.out.2.1, OWN.out.2.2.1, OWN.out.2.2.2.2⟩
            case measure => simp [intOf] <;> omega
          · have hkb : (xk == 0) = false := by simpa using hk0
            have hkn : decide (xk ≠ 0) = true := decide_eq_true hk0
            have eS : toInts (selP (fSome l) l i) ++ [(m : Int)] = toInts (selP (fSome l) l (i + 1)) := by rw [SEL.out.2, hkn]; simp [toInts]
            have eW := SEL.out.1
            rw [hkn, Bool.true_and] at eW
            have CM1 := fun W => compare_any ⟨xk, xn, xs⟩ ⟨lk, ln, ls⟩ W
            have CM2 := fun W => compare_any ⟨xk, xn, xs⟩ ⟨hk, hn, hs⟩ W
            generalize (⟨xk, xn, xs⟩ : Val).cmp ⟨lk, ln, ls⟩ = cm1 at CM1 eW
            generalize (⟨xk, xn, xs⟩ : Val).cmp ⟨hk, hn, hs⟩ = cm2 at CM2 eW
            obtain ⟨LW, hLW⟩ : ∃ LW, LW = selP (fWant l ⟨lk, ln, ls⟩ ⟨hk, hn, hs⟩) l := ⟨_, rfl⟩
            rw [← hLW] at OWN eW
            have hlw : (LW i).length ≤ 60 := by rw [hLW]; exact Nat.le_trans (selP_len _ _ _) (by rw [HLL.out]; exact hn60)
            have hls : (toInts (selP (fSome l) l i)).length ≤ 60 := by rw [toInts_len]; exact Nat.le_trans (selP_len _ _ _) (by rw [HLL.out]; exact hn60)
            have CMS := Lib.hid (And.intro CM1 CM2)
            have EW := Lib.hid eW
            have ES := Lib.hid eS
            have HLW := Lib.hid hLW
            have hb5Y := OWN.out.2.2.2.2
            have hs5Y := hb5Y.size
            have dAll : ∀ W', Below W5.heap.size W5 W' → W'.cell? ⟨ga, oa + i, none⟩ = some (.int .i64 (m : Int)) := fun W' hb => by
              obtain ⟨ga', oa', ea, -, hga', hcA⟩ := (OA.out.arr.same (Same.of hb (Nat.le_refl _))) i (by rw [toInts_len, allP_len, HLL.out]; exact hlt)
              obtain ⟨rfl, rfl⟩ : ga = ga' ∧ oa = oa' := by simpa using ea
              have := hcA i (m : Int) (by unfold toInts; rw [List.getElem?_map, HM.out.1]; rfl)
              unfold intC at this
              rwa [Nat.mul_one] at this
            have DA := Lib.hid dAll
            have d0 := dAll Y hb5Y
            have hb2 : Below Y.heap.size Y (Y.alloc (.cells #[.int .i64 (m : Int)] 3)) := by (repeat (first | exact ext_refl _ | assumption | (refine ext_alloc ?_ _) | (refine ext_drewN ?_ _) | refine ext_drew ?_ | (refine ext_set (by first | (simp; done) | (simp; omega)) _ ?_) | (refine ext_trans ?_ (by assumption))))
            have hbE : Below W5.heap.size W5 (Y.alloc (.cells #[.int .i64 (m : Int)] 3)) := hb5Y.trans (hb2.mono hs5Y)
            have OO := Lib.hid (show OwnN (Y.alloc (.cells #[.int .i64 (m : Int)] 3)) W5.heap.size (.slice qs ms cs) (toInts (selP (fSome l) l i)) from OWN.out.2.1.later hb2)
            have OW := Lib.hid (show OwnN (Y.alloc (.cells #[.int .i64 (m : Int)] 3)) W5.heap.size (.slice qw mw cw) (toInts (LW i)) from OWN.out.1.later hb2)
            have YB := Lib.hid (show (Y.alloc (.cells #[.int .i64 (m : Int)] 3)).heap[V.heap.size]? = some (.cells #[.int .i64 xk, .int .i64 xn, .string xs] 24 (0, 0)) from alloc_old HY.out.1)
            have HR1 := Lib.hid (one_block (W := Y) numCell_len 3 #[.int .i64 (m : Int)] (m : Int) rfl Y.heap.size rfl)
            have HE2 := Lib.hid hbE
            clear CM1 CM2 eW eS hLW hb2 hbE hkn hk0 SEL dAll hb5Y
            go_wp2_with (at_builtin; refine wp_append_lie rfl _ _ 31 3 rfl Try.underlying31 _ 8 Try.infoIntX rfl (by omega) numCell_len numCell_one W5.heap.size _ (toInts (selP (fSome l) l i)) rfl OO.out _ _ _ [(m : Int)] rfl rfl 0 (Y.heap.size + 1) HR1.out ?l1 ?l2 HE2.out.size ?_)
            case l1 => rw [toInts_len] at hls; unfold maxLen; simp; omega
            case l2 => rw [toInts_len] at hls; simp; omega
            intro v3 w6 O3 b3 o3 lie3
            rw [ES.out] at O3
            have B6 : Below W5.heap.size W5 w6 := HE2.out.trans b3
            have hs56 := B6.size
            have xb6 : w6.heap[V.heap.size]? = some (.cells #[.int .i64 xk, .int .i64 xn, .string xs] 24 (0, 0)) := (o3.block V.heap.size (by have := HY.out.2.2; simp; omega) (fun e => by have := OWN.out.2.2.2.1 _ e; omega)).trans YB.out
            have ow6 : OwnN w6 W5.heap.size (.slice qw mw cw) (toInts (LW i)) := OW.out.kept o3 (fun k hk' e => OWN.out.2.2.1 k e hk')
            have ap6 : ∀ k, (Value.slice qw mw cw).ownBlock = some k → v3.ownBlock ≠ some k := fun k hk' e => by
              rcases lie3 with h | h
              · rw [h] at e; exact OWN.out.2.2.1 k hk' e
              · rw [h] at e
                have h1 := (OWN.out.1.lt k hk').2
                have h2 : (Y.alloc (.cells #[.int .i64 (m : Int)] 3)).heap.size = k := by simpa using e
                simp at h2
                omega
            have hV6 : V.heap.size < w6.heap.size := (Array.getElem?_eq_some_iff.1 xb6).1
            obtain ⟨q3, c3, rfl, -⟩ := O3.arr numCell_len
            rw [toInts_len] at O3 ap6
            have boxes : ∀ W', Below W5.heap.size W5 W' → W'.heap[w.heap.size]? = some (.cells #[.int .i64 lk, .int .i64 ln, .string ls] 24 (0, 0)) ∧ W'.heap[w.heap.size + 1]? = some (.cells #[.int .i64 hk, .int .i64 hn, .string hs] 24 (0, 0)) := fun W' hb => by
              have h : Below W0.heap.size W0 W' := BW.out.trans ((B5.out.mono hs3).trans (hb.mono (by omega)))
              exact ⟨(h.block w.heap.size (by omega)).trans HO.out.1, (h.block (w.heap.size + 1) (by omega)).trans HO.out.2⟩
            have H6 := Lib.hid (And.intro O3 (And.intro ow6 (And.intro ap6 B6)))
            have BXS := Lib.hid (And.intro boxes xb6)
            have t0 : w6.cell? ⟨V.heap.size, 0, none⟩ = some (.int .i64 xk) := by rw [Lib.cell_of_heap xb6]; rfl
            have t1 : w6.cell? ⟨V.heap.size, 1, none⟩ = some (.int .i64 xn) := by rw [Lib.cell_of_heap xb6]; rfl
            have t2 : w6.cell? ⟨V.heap.size, 2, none⟩ = some (.string xs) := by rw [Lib.cell_of_heap xb6]; rfl
            have l0 : w6.cell? ⟨w.heap.size, 0, none⟩ = some (.int .i64 lk) := by rw [Lib.cell_of_heap (boxes w6 B6).1]; rfl
            have l1 : w6.cell? ⟨w.heap.size, 1, none⟩ = some (.int .i64 ln) := by rw [Lib.cell_of_heap (boxes w6 B6).1]; rfl
            have l2 : w6.cell? ⟨w.heap.size, 2, none⟩ = some (.string ls) := by rw [Lib.cell_of_heap (boxes w6 B6).1]; rfl
            clear b3 o3 lie3 OO OW YB HR1 HE2 O3 ow6 ap6 B6 boxes xb6 OWN ES hls d0 y0
            go_wp2_with fail
            refine (CMS.out.1 w6).mono ?_
            rintro e w7 ⟨rfl, hb7⟩
            have H7 := Lib.hid hb7
            have hs67 := hb7.size
            clear t0 t1 t2 l0 l1 l2 hb7
            by_cases h1 : 0 ≤ cm1
            · have hg1 : decide (cm1 ≥ 0) = true := decide_eq_true h1
              have b7 := H6.out.2.2.2.trans (H7.out.mono hs56)
              have xb7 := (H7.out.block V.heap.size hV6).trans BXS.out.2
              have t0 : w7.cell? ⟨V.heap.size, 0, none⟩ = some (.int .i64 xk) := by rw [Lib.cell_of_heap xb7]; rfl
              have t1 : w7.cell? ⟨V.heap.size, 1, none⟩ = some (.int .i64 xn) := by rw [Lib.cell_of_heap xb7]; rfl
              have t2 : w7.cell? ⟨V.heap.size, 2, none⟩ = some (.string xs) := by rw [Lib.cell_of_heap xb7]; rfl
              have l0 : w7.cell? ⟨w.heap.size + 1, 0, none⟩ = some (.int .i64 hk) := by rw [Lib.cell_of_heap (BXS.out.1 w7 b7).2]; rfl
              have l1 : w7.cell? ⟨w.heap.size + 1, 1, none⟩ = some (.int .i64 hn) := by rw [Lib.cell_of_heap (BXS.out.1 w7 b7).2]; rfl
              have l2 : w7.cell? ⟨w.heap.size + 1, 2, none⟩ = some (.string hs) := by rw [Lib.cell_of_heap (BXS.out.1 w7 b7).2]; rfl
              clear b7 xb7
              go_wp2_with fail
              refine (CMS.out.2 w7).mono ?_
              rintro e w8 ⟨rfl, hb8⟩
              have H8 := Lib.hid (H7.out.trans (hb8.mono hs67))
              clear t0 t1 t2 l0 l1 l2 hb8
              by_cases h2 : cm2 ≤ 0
              · have hg2 : decide (cm2 ≤ 0) = true := decide_eq_true h2
                have e : toInts (LW i) ++ [(m : Int)] = toInts (LW (i + 1)) := by rw [EW.out, hg2, show decide (0 ≤ cm1) = true from hg1]; simp [toInts]
                have HE := Lib.hid e
                have b8 := H6.out.2.2.2.trans (H8.out.mono hs56)
                have hs8 := b8.size
                have d0 := DA.out w8 b8
                have hb2 : Below w8.heap.size w8 (w8.alloc (.cells #[.int .i64 (m : Int)] 3)) := by (repeat (first | exact ext_refl _ | assumption | (refine ext_alloc ?_ _) | (refine ext_drewN ?_ _) | refine ext_drew ?_ | (refine ext_set (by first | (simp; done) | (simp; omega)) _ ?_) | (refine ext_trans ?_ (by assumption))))
                have OW := Lib.hid (show OwnN (w8.alloc (.cells #[.int .i64 (m : Int)] 3)) W5.heap.size (.slice qw mw cw) (toInts (LW i)) from (H6.out.2.1.later H8.out).later hb2)
                have OS := Lib.hid (show OwnN (w8.alloc (.cells #[.int .i64 (m : Int)] 3)) W5.heap.size (.slice q3 (selP (fSome l) l (i + 1)).length c3) (toInts (selP (fSome l) l (i + 1))) ∧ ∀ k, (Value.slice q3 (selP (fSome l) l (i + 1)).length c3).ownBlock = some k → k < w8.heap.size from ⟨(H6.out.1.later H8.out).later hb2, fun k hk' => ((H6.out.1.later H8.out).lt k hk').2⟩)
                have HR1 := Lib.hid (one_block (W := w8) numCell_len 3 #[.int .i64 (m : Int)] (m : Int) rfl w8.heap.size rfl)
                have HE2 := Lib.hid (b8.trans (hb2.mono hs8))
                have HAP := Lib.hid H6.out.2.2.1
                clear e hb2 b8 H6 H8 H7 BXS CMS DA EW
                go_wp2_with (at_builtin; refine wp_append_lie rfl _ _ 31 3 rfl Try.underlying31 _ 8 Try.infoIntX rfl (by omega) numCell_len numCell_one W5.heap.size _ (toInts (LW i)) rfl OW.out _ _ _ [(m : Int)] rfl rfl 0 (w8.heap.size + 1) HR1.out ?l1 ?l2 HE2.out.size ?_)
                case l1 => unfold maxLen; simp; omega
                case l2 => simp; omega
                intro v9 w9 O9 b9 o9 lie9
                rw [HE.out] at O9
                have ow9 : OwnN w9 W5.heap.size (.slice q3 (selP (fSome l) l (i + 1)).length c3) (toInts (selP (fSome l) l (i + 1))) := OS.out.1.kept o9 (fun k hk' e => HAP.out k hk' e)
                have ap9 : ∀ k, v9.ownBlock = some k → (Value.slice q3 (selP (fSome l) l (i + 1)).length c3).ownBlock ≠ some k := fun k hk' e => by
                  rcases lie9 with h | h
                  · rw [h] at hk'; exact HAP.out k hk' e
                  · rw [h] at hk'
                    have h1 := OS.out.2 k e
                    have h2 : (w8.alloc (.cells #[.int .i64 (m : Int)] 3)).heap.size = k := by simpa using hk'
                    simp at h2
                    omega
                obtain ⟨q9, c9, rfl, -⟩ := O9.arr numCell_len
                have NX := Lib.hid (And.intro O9 (And.intro ow9 (And.intro ap9 (HE2.out.trans b9))))
                clear O9 ow9 ap9 b9 o9 lie9 OW OS HR1 HE2 HAP HE d0
                go_wp2_with fail
                go_roundw
                case rel => exact ⟨i + 1, by go_num, by omega, ⟨_, _, _, rfl⟩, ⟨_, _, _, rfl⟩, by rw [← HLW.out]; exact NX.out.1, NX.out.2.1, NX.out.2.2.1, NX.out.2.2.2⟩
                case measure => simp [intOf] <;> omega
              · have hg2 : decide (cm2 ≤ 0) = false := decide_eq_false h2
                have e : LW (i + 1) = LW i := by rw [EW.out, hg2, Bool.and_false]; simp
                have HE := Lib.hid e
                clear e
                go_wp2_with fail
                go_roundw
                case rel => exact ⟨i + 1, by go_num, by omega, ⟨_, _, _, rfl⟩, ⟨_, _, _, rfl⟩, by rw [← HLW.out, HE.out]; exact H6.out.2.1.later H8.out, H6.out.1.later H8.out, H6.out.2.2.1, H6.out.2.2.2.trans (H8.out.mono hs56)⟩
                case measure => simp [intOf] <;> omega
            · have hg1 : decide (cm1 ≥ 0) = false := decide_eq_false h1
              have e : LW (i + 1) = LW i := by rw [EW.out, show decide (0 ≤ cm1) = false from hg1, Bool.false_and]; simp
              have HE := Lib.hid e
              clear e
              go_wp2_with fail
              go_roundw
              case rel => exact ⟨i + 1, by go_num, by omega, ⟨_, _, _, rfl⟩, ⟨_, _, _, rfl⟩, by rw [← HLW.out, HE.out]; exact H6.out.2.1.later H7.out, H6.out.1.later H7.out, H6.out.2.2.1, H6.out.2.2.2.trans (H7.out.mono hs56)⟩
              case measure => simp [intOf] <;> omega
      · have hin : n = i := by omega
        subst hin
        have hWn : selP (fWant l ⟨lk, ln, ls⟩ ⟨hk, hn, hs⟩) l n = rangeP l (some ⟨lk, ln, ls⟩) (some ⟨hk, hn, hs⟩) := by rw [range_want, ← selP_all, HLL.out]
        have hSn : selP (fSome l) l n = rangeP l none none := by rw [range_some, ← selP_all, HLL.out]
        obtain ⟨g1, g2, -, g4⟩ := HR.out
        rw [hWn] at g1
        rw [hSn] at g2
        obtain ⟨qw', cw', ew, hW⟩ := g1.ints
        obtain ⟨qs', cs', es, hS⟩ := g2.ints
        simp only [Value.slice.injEq] at ew es
        obtain ⟨e1, e2, e3⟩ := ew
        obtain ⟨f1, f2, f3⟩ := es
        subst e1 e3 f1 f3
        rw [e2, f2, toInts_len, toInts_len]
        have IV := IX.out.keep (B5.out.trans (g4.mono hs5))
        have h0V : Below W0.heap.size W0 V := BW.out.trans ((B5.out.mono hs3).trans (g4.mono (by omega)))
        have lb := (h0V.block w.heap.size (by omega)).trans HO.out.1
        have hb := (h0V.block (w.heap.size + 1) (by omega)).trans HO.out.2
        have l0 : V.cell? ⟨w.heap.size, 0, none⟩ = some (.int .i64 lk) := by rw [Lib.cell_of_heap lb]; rfl
        have l1 : V.cell? ⟨w.heap.size, 1, none⟩ = some (.int .i64 ln) := by rw [Lib.cell_of_heap lb]; rfl
        have l2 : V.cell? ⟨w.heap.size, 2, none⟩ = some (.string ls) := by rw [Lib.cell_of_heap lb]; rfl
        have k0 : (V.alloc (.cells #[.int .i64 lk, .int .i64 ln, .string ls] 24)).cell? ⟨w.heap.size + 1, 0, none⟩ = some (.int .i64 hk) := by rw [Lib.cell_of_heap (alloc_old hb)]; rfl
        have k1 : (V.alloc (.cells #[.int .i64 lk, .int .i64 ln, .string ls] 24)).cell? ⟨w.heap.size + 1, 1, none⟩ = some (.int .i64 hn) := by rw [Lib.cell_of_heap (alloc_old hb)]; rfl
        have k2 : (V.alloc (.cells #[.int .i64 lk, .int .i64 ln, .string ls] 24)).cell? ⟨w.heap.size + 1, 2, none⟩ = some (.string hs) := by rw [Lib.cell_of_heap (alloc_old hb)]; rfl
        obtain ⟨X9, hX9⟩ : ∃ X, X = (V.alloc (.cells #[.int .i64 lk, .int .i64 ln, .string ls] 24)).alloc (.cells #[.int .i64 hk, .int .i64 hn, .string hs] 24) := ⟨_, rfl⟩
        have hb9 : Below V.heap.size V X9 := by rw [hX9]; (repeat (first | exact ext_refl _ | assumption | (refine ext_alloc ?_ _) | (refine ext_drewN ?_ _) | refine ext_drew ?_ | (refine ext_set (by first | (simp; done) | (simp; omega)) _ ?_) | (refine ext_trans ?_ (by assumption))))
        have hz9 : V.heap.size + 1 < X9.heap.size := by rw [hX9]; simp
        have m0 : X9.heap[V.heap.size]? = some (.cells #[.int .i64 lk, .int .i64 ln, .string ls] 24 (0, 0)) := by rw [hX9]; exact alloc_old (heap_alloc_new _ _)
        have m1 : X9.heap[V.heap.size + 1]? = some (.cells #[.int .i64 hk, .int .i64 hn, .string hs] 24 (0, 0)) := by rw [hX9]; exact alloc_new (by simp)
        have one : ∀ (g : Nat) (x : Val), X9.heap[g]? = some (.cells #[.int .i64 x.k, .int .i64 x.n, .string x.s] 24 (0, 0)) → ValsA X9 0 (g + 1) (some ⟨g, 0, none⟩) [x] := fun g x h => one_arr (Nat.zero_le _) (Nat.lt_succ_self _) ⟨by rw [Lib.cell_of_heap h]; rfl, by rw [Lib.cell_of_heap h]; rfl, by rw [Lib.cell_of_heap h]; rfl⟩
        have RG := Lib.hid (range_any X9 _ p l [⟨lk, ln, ls⟩] [⟨hk, hn, hs⟩] (some ⟨V.heap.size, 0, none⟩) (some ⟨V.heap.size + 1, 0, none⟩) 1 1 0 (V.heap.size + 1) 0 (V.heap.size + 1 + 1) (IV.later hb9) (by simp) (by omega) (by simp) (by omega) (one _ ⟨lk, ln, ls⟩ m0) (one _ ⟨hk, hn, hs⟩ m1) (by omega) (by omega))
        rw [show ([⟨lk, ln, ls⟩] : List Val).head? = some ⟨lk, ln, ls⟩ from rfl, show ([⟨hk, hn, hs⟩] : List Val).head? = some ⟨hk, hn, hs⟩ from rfl] at RG
        have hdl : distP l ≤ (rangeP l none none).length := by rw [range_some]; exact distP_le l
        have I9 := Lib.hid (IV.later hb9)
        have B9 := Lib.hid hb9
        have GW := Lib.hid (And.intro hW hS)
        have GB := Lib.hid (HB0.out.trans (h0V.mono (by omega)))
        have HX9 := Lib.hid hX9
        generalize rangeP l (some ⟨lk, ln, ls⟩) (some ⟨hk, hn, hs⟩) = R1 at RG GW hWn ⊢
        obtain ⟨R2, hR2⟩ : ∃ R2, R2 = rangeP l none none := ⟨_, rfl⟩
        rw [← hR2] at GW hdl ⊢
        have HR2 := Lib.hid hR2
        have HDL := Lib.hid hdl
        clear hX9 m0 m1 one IV hW hS hb9 h0V lb hb hWn hSn g1 g2 g4 HR e2 f2 hR2 hdl
        have hs9 := B9.out.size
        go_upto_region 29 with fail
        go_wp2_with fail
        rw [← HX9.out]
        refine (RG.out).mono ?_
        rintro e w10 ⟨⟨q10, c10, rfl, o10⟩, hb10⟩
        have B10 := Lib.hid (B9.out.trans (hb10.mono hs9))
        have hs10 := B10.out.size
        have NS := Lib.hid (numbers_same (toInts R1) q10 qw c10 cw X9.heap.size w10.heap.size W5.heap.size V.heap.size w10 o10.le o10.le2 GW.out.1.le o10.arr (GW.out.1.arr.same (Same.of B10.out (Nat.le_refl _))))
        rw [toInts_len] at NS
        have I10 := Lib.hid (I9.out.later hb10)
        clear o10 hb10 RG I9 B9 HX9 l0 l1 l2 k0 k1 k2
        go_wp2_with fail
        refine (NS.out).mono ?_
        rintro e w11 ⟨rfl, hb11⟩
        have B11 := Lib.hid (B10.out.trans (hb11.mono hs10))
        have I11 := I10.out.later hb11
        have RG := range_any w11 _ p l [] [] none none 0 0 0 0 0 0 I11 (by simp) (by omega) (by simp) (by omega) (fun i hi => by simp at hi) (fun i hi => by simp at hi) (Nat.zero_le _) (Nat.zero_le _)
        rw [show ([] : List Val).head? = none from rfl, ← HR2.out] at RG
        have RG := Lib.hid RG
        have I11 := Lib.hid I11
        have hs11 := B11.out.size
        clear hb11 NS I10 B10 HR2
        go_wp2_with fail
        refine (RG.out).mono ?_
        rintro e w12 ⟨⟨q12, c12, rfl, o12⟩, hb12⟩
        have B12 := Lib.hid (B11.out.trans (hb12.mono hs11))
        have hs12 := B12.out.size
        have NS := Lib.hid (numbers_same (toInts R2) q12 qs c12 cs w11.heap.size w12.heap.size W5.heap.size V.heap.size w12 o12.le o12.le2 GW.out.2.le o12.arr (GW.out.2.arr.same (Same.of B12.out (Nat.le_refl _))))
        rw [toInts_len] at NS
        have I12 := Lib.hid (I11.out.later hb12)
        clear o12 hb12 RG I11 B11
        go_wp2_with fail
        refine (NS.out).mono ?_
        rintro e w13 ⟨rfl, hb13⟩
        have B13 := Lib.hid (B12.out.trans (hb13.mono hs12))
        have hs13 := B13.out.size
        have DI := Lib.hid (distinct_any w13 _ p l (I12.out.later hb13))
        clear hb13 NS I12 B12 GW
        go_wp2_with fail
        refine (DI.out).mono ?_
        rintro e w14 ⟨rfl, hb14⟩
        have B14 := Lib.hid (GB.out.trans ((B13.out.trans (hb14.mono hs13)).mono GB.out.size))
        have hle : (distP l : Int) ≤ (R2.length : Int) := by have := HDL.out; omega
        clear hb14 DI B13 HDL
        go_wp2_with fail
        go_ret
        exact ⟨rfl, B14.out⟩

/- FRAME -/

set_option maxRecDepth 100000 in
theorem indexRanges_lifted (os : Os) (started : os.Started) (H : Type) (enc : TypeId × Value → H) :
    ReturnsInHanded {} Try.checked os 4 .any (Rows.indexRangesSpec.pre6 enc Try.prog Try.f4 Rows.indexRangesRow.domain false) (Rows.indexRangesSpec.post enc Try.prog Try.f4 false true false false) := by
  refine returnsInHanded_of_change_sized (C := Try.checked) Try.own started (by kernel_rfl) Try.func4
    (ChangeSpec.witness6 (enc := enc) (C := Try.checked) false ⟨#[], #[.slice none 0 0, .agg #[.int .i64 0, .int .i64 0, .string ⟨#[]⟩], .agg #[.int .i64 0, .int .i64 0, .string ⟨#[]⟩]], []⟩ 8 (by kernel_rfl) (by kernel_rfl) (by kernel_rfl) (by kernel_rfl)) ?_
  intro W base args ds gs before hval0 hW _ hsz _
  have hval : ∀ (j : Nat) t v, Try.f4.params[j]? = some t → args[j]? = some v → Value.okWide Try.prog W .any base t v := hval0
  have hW' := hW
  obtain ⟨p, q, hA0, hV, rfl, _, _⟩ := hW
  have hA : DataW.TrodAll enc Try.prog W 0 (fun _ => true) true Try.f4.params.toList args.toList ds p := hA0
  rw [Try.params4] at hA hval hsz
  obtain ⟨v0, v1, v2, d0, d1, d2, p0, p1, p2, rfl, rfl, rfl, h0, h1, h2⟩ := trodAll_three hA
  obtain ⟨x1, rfl, fx1⟩ := open_valx (hval 1 24 v1 rfl rfl) h1
  obtain ⟨x2, rfl, fx2⟩ := open_valx (hval 2 24 v2 rfl rfl) h2
  obtain ⟨q0, L0, c0, rfl, le0, m0, tx0, fx0⟩ := open_rowx (hval 0 22 v0 rfl rfl) h0 (fun n hn => of_decide_eq_true (List.all_eq_true.1 hsz _ (DataW.weights_mem_each (j := 0) (t := 22) rfl rfl n hn)))
  clear hA0 hval0
  refine (ranges_walk L0 q0 c0 x1 x2 W le0 m0 tx0 fx0).mono fun e W' ⟨he, hb⟩ => ⟨_, he, post_law rfl hW' rfl rfl ?_ hb⟩
  intro t ht
  rw [Try.params4] at ht
  simp only [List.mem_cons, List.not_mem_nil, or_false] at ht
  rcases ht with rfl | rfl | rfl <;> exact ⟨by kernel_rfl, of_decide_eq_true (by kernel_rfl)⟩

theorem indexRanges_holds : Rows.IndexRangesSaid :=
  OpenClaim.holds_of_wide 4 Try.f4 rfl rfl rfl rfl rfl rfl rfl ⟨rfl, rfl, rfl, rfl, rfl⟩ rfl rfl rfl rfl rfl (by kernel_rfl) Try.func4 (by kernel_rfl)
    (of_decide_eq_true (by kernel_rfl)) (by unfold Func.isWrapper; rw [if_neg (of_decide_eq_false (by kernel_rfl))]; exact ⟨rfl, rfl⟩)
    (fun os started H enc _ => indexRanges_lifted os started H enc)

#print axioms indexRanges_holds

end Go.Proofs.Ytflbeccfdbjbhaa
