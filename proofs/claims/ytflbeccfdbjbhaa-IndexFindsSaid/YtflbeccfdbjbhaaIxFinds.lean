/- IndexFinds: each row is found by its value, both ways, unless that is NULL; and nothing else is: the law answers true, whatever the values. -/
import Derived.Test.YtflbeccfdbjbhaaIxV
import Derived.Test.YtflbeccfdbjbhaaStO
namespace Go.Proofs.Ytflbeccfdbjbhaa
open Go.ChangeShapes Go.WideShapes Go.ChangeAt Go.RowKit Go.Joins
set_option maxRecDepth 100000

theorem cell_set3 {W : World} {b : Nat} {x0 x1 x2 y0 y1 y2 : Value} {T : TypeId} (h : W.heap[b]? = some (.cells #[x0, x1, x2] T (0, 0))) : (((W.setCell ⟨b, 0, none⟩ y0).setCell ⟨b, 1, none⟩ y1).setCell ⟨b, 2, none⟩ y2).heap[b]? = some (.cells #[y0, y1, y2] T (0, 0)) := by
  have one : ∀ (W : World) (cs : Array Value) (k : Nat) (u : Value), W.heap[b]? = some (.cells cs T (0, 0)) → (W.setCell ⟨b, k, none⟩ u).heap[b]? = some (.cells (cs.setIfInBounds k u) T (0, 0)) := fun W cs k u h => by
    rw [setCell_eq_setRow W b k _ _ _ _ h]
    exact setRow_heap W b _ _ _ _ h
  have := one _ _ 2 y2 (one _ _ 1 y1 (one _ _ 0 y0 h))
  simpa using this

abbrev twoR (x : Val) : List Val := [nul, x]

set_option maxHeartbeats 8000000 in
theorem finds_walk (vals : List Val) (q : Option Addr) (c : Nat) (other : Val) (w : World) (_ : vals.length ≤ c) (_ : c ≤ 9223372036854775807) (hV : ValsA w 0 w.heap.size q vals) (hf : ∀ v ∈ vals, FitV v) (hfo : FitV other) :
    Calls Try.prog 3 #[.slice q vals.length c, other.v] w fun e w' => e = .returned (.bool true) ∧ Below w.heap.size w w' := by
  obtain ⟨n, hn⟩ : ∃ n, n = min vals.length 60 := ⟨_, rfl⟩
  have hn60 : n ≤ 60 := by omega
  have hnl : n ≤ vals.length := by omega
  have hnm : n < vals.length → n = 60 := by omega
  obtain ⟨l, hl⟩ : ∃ l, l = vals.take n := ⟨_, rfl⟩
  have hll : l.length = n := by rw [hl, List.length_take]; omega
  have hlf : ∀ v ∈ l, FitV v := fun v hv => hf v (List.mem_of_mem_take (by rw [hl] at hv; exact hv))
  obtain ⟨W0, hW0⟩ : ∃ W0, W0 = w.alloc (.cells #[.int .i64 other.k, .int .i64 other.n, .string other.s] 24) := ⟨_, rfl⟩
  have hB0 : Below w.heap.size w W0 := by rw [hW0]; (repeat (first | exact ext_refl _ | assumption | (refine ext_alloc ?_ _) | (refine ext_drewN ?_ _) | refine ext_drew ?_ | (refine ext_set (by first | (simp; done) | (simp; omega)) _ ?_) | (refine ext_trans ?_ (by assumption))))
  have hz : w.heap.size < W0.heap.size := by rw [hW0]; simp
  have b0 : W0.cell? ⟨w.heap.size, 0, none⟩ = some (.int .i64 other.k) := by rw [hW0]; simp [go_sem]
  have b1 : W0.cell? ⟨w.heap.size, 1, none⟩ = some (.int .i64 other.n) := by rw [hW0]; simp [go_sem]
  have b2 : W0.cell? ⟨w.heap.size, 2, none⟩ = some (.string other.s) := by rw [hW0]; simp [go_sem]
  have HW := Lib.hid hW0
  have HB0 := Lib.hid hB0
  have HO := Lib.hid (And.intro b0 (And.intro b1 b2))
  have HV := Lib.hid (hV.same (Same.of hB0 (Nat.le_refl _)))
  have HF := Lib.hid (And.intro hlf hfo)
  have HL := Lib.hid hl
  have HLL := Lib.hid hll
  clear hn hV hf hfo hlf hl hll hW0 hB0 b0 b1 b2
  obtain ⟨ok, on, os⟩ := other
  go_enter Try.func3, Try.ntmps3
  go_upto_region 1 with fail
  rw [← HW.out]
  clear HW
  go_wp2_with fail
  refine (ex6_any _).mono ?_
  rintro e W1 ⟨rfl, hb1⟩
  have hs1 := hb1.size
  have HB1 := Lib.hid hb1
  clear hb1
  go_upto_block 0 with fail
  go_cut [6, 7] (fun v _ wc => ∃ q2 c2, v = .slice q2 n c2 ∧ Hid (n ≤ c2 ∧ c2 ≤ 9223372036854775807 ∧ RowsA wc W1.heap.size wc.heap.size q2 (rowsOf twoR l) ∧ Below W1.heap.size W1 wc))
  case first =>
    go_wp2_with fail
    go_loopw [7, 6] (fun vi vo wr => ∃ i : Nat, vi = .int .i64 i ∧ i ≤ n ∧ (∃ (q : Option Addr) (n k : Nat), vo = .slice q n k) ∧ Hid (Own2 wr W1.heap.size 22 24 3 vCell vo (rowsOf twoR (vals.take i)) ∧ Below W1.heap.size W1 wr)) (fun vi _ _ => n - (intOf vi).toNat)
    case atStart => exact ⟨0, rfl, Nat.zero_le _, ⟨_, _, _, rfl⟩, Own2.nil _ _ _ _ _ _ _ (OwnF.nil _ _ _), Below.refl _ _⟩
    case round =>
      obtain ⟨i, rfl, hi, ⟨q0, n0, k0, rfl⟩, HH⟩ := hrel
      obtain ⟨V, hV⟩ : ∃ V, V = wr := ⟨_, rfl⟩
      subst hV
      have hsV := HH.out.2.size
      by_cases hlt : i < n
      · obtain ⟨g, off, rfl, hg1, hg2, hcA⟩ := ((HV.out.same (Same.of (HB1.out.mono (Nat.le_of_lt hz)) (Nat.le_refl _))).same (Same.of HH.out.2 (by omega))) i (by omega)
        obtain ⟨x, hx⟩ : ∃ x, vals[i]? = some x := ⟨_, List.getElem?_eq_getElem (by omega)⟩
        obtain ⟨e0, e1, e2⟩ := hcA i x hx
        have HX := Lib.hid hx
        clear hcA hx
        obtain ⟨xk, xn, xs⟩ := x
        obtain ⟨K, hK1, hK2, hK3⟩ := HH.out.1.outer
        obtain ⟨X, hX⟩ : ∃ X, X = (V.alloc (.cells #[.int .i64 0, .int .i64 0, .string ⟨#[]⟩, .int .i64 xk, .int .i64 xn, .string xs] 24)).alloc (.cells #[.slice (some ⟨V.heap.size, 0, none⟩) 2 2] 22) := ⟨_, rfl⟩
        have hbX : Below V.heap.size V X := by rw [hX]; (repeat (first | exact ext_refl _ | assumption | (refine ext_alloc ?_ _) | (refine ext_drewN ?_ _) | refine ext_drew ?_ | (refine ext_set (by first | (simp; done) | (simp; omega)) _ ?_) | (refine ext_trans ?_ (by assumption))))
        have OO := Lib.hid (show OwnF X W1.heap.size 22 1 rawCell (.slice q0 n0 k0) K from hK1.later hbX)
        have OK := Lib.hid (show ∀ (j : Nat) (r : Raw) (l : List Val), K[j]? = some r → (rowsOf twoR (vals.take i))[j]? = some l → r.2.1 = l.length ∧ OwnF X W1.heap.size 24 3 vCell (.slice r.1 r.2.1 r.2.2) l from fun j r l hr hl => ⟨(hK3 j r l hr hl).1, (hK3 j r l hr hl).2.later hbX⟩)
        have ON := Lib.hid (show OwnF X W1.heap.size 24 3 vCell (.slice (some ⟨V.heap.size, 0, none⟩) 2 2) (twoR ⟨xk, xn, xs⟩) from OwnF.whole (l := twoR ⟨xk, xn, xs⟩) vCell_len (by rw [hX]; exact alloc_old (heap_alloc_new _ _)) hsV rfl (by unfold maxLen; simp))
        have HKL := Lib.hid hK2
        have hKn : K.length ≤ 60 := by rw [hK2, rowsOf_len, List.length_take]; omega
        have HE := Lib.hid (show Below W1.heap.size W1 X from HH.out.2.trans (hbX.mono hsV))
        have HR1 : Hid (ArrA 0 (V.heap.size + 1 + 1) (some ⟨V.heap.size + 1, 0, none⟩) 1 [((some ⟨V.heap.size, 0, none⟩, 2, 2) : Raw)] (fun g o r => ∀ (k : Nat) u, (rawCell r)[k]? = some u → X.cell? ⟨g, o + k, none⟩ = some u)) := Lib.hid (by rw [hX]; exact one_block rawCell_len _ _ _ rfl _ (by simp))
        have HXX := Lib.hid hX
        clear hK1 hK2 hK3 hbX hX HH
        go_wp2_with (at_builtin; rw [← HXX.out]; refine wp_append_flat rfl _ _ 26 22 rfl Try.underlying26 _ 24 Try.infoRowX rfl (by omega) rawCell_len rawCell_one W1.heap.size _ K rfl OO.out _ _ _ [((some ⟨V.heap.size, 0, none⟩, 2, 2) : Raw)] rfl rfl 0 (V.heap.size + 1 + 1) HR1.out ?l1 ?l2 HE.out.size ?_)
        case l1 => unfold maxLen; simp; omega
        case l2 => show (K.length + 1) * 24 ≤ 140737488355328; omega
        intro v3 w3 O3 b3 o3
        obtain ⟨q3, c3, rfl, -⟩ := O3.arr rawCell_len
        have NX := Own2.push (L := rowsOf twoR (vals.take i)) (l := twoR ⟨xk, xn, xs⟩) (by decide) OO.out HKL.out OK.out ON.out rfl O3 o3
        have e3 : rowsOf twoR (vals.take i) ++ [twoR ⟨xk, xn, xs⟩] = rowsOf twoR (vals.take (i + 1)) := by rw [List.take_add_one, HX.out]; simp
        rw [e3] at NX
        have NX := Lib.hid (And.intro NX (HE.out.trans b3))
        clear O3 b3 o3 OO OK ON HE HR1 HXX HKL e3
        go_wp2_with fail
        go_roundw
        case rel => exact ⟨i + 1, by go_num, hlt, ⟨_, _, _, rfl⟩, NX⟩
        case measure => simp [intOf] <;> omega
      · have hin : n = i := by omega
        subst hin
        obtain ⟨h1, h2⟩ := HH.out
        rw [← HL.out] at h1
        obtain ⟨q3, c3, e3, k1, k2, k3⟩ := h1.rowsA
        rw [rowsOf_len, HLL.out] at e3 k1
        simp only [Value.slice.injEq] at e3
        obtain ⟨e4, e5, e6⟩ := e3
        subst e4 e6
        rw [e5]
        clear e5
        have R := Lib.hid (And.intro k1 (And.intro k2 (And.intro k3 h2)))
        clear h1 h2 k1 k2 k3 HH
        by_cases h60 : n < vals.length
        · have hq1 : (n : Int) < (vals.length : Int) := by omega
          have hq2 : ¬ (n : Int) < 60 := by have := hnm h60; omega
          clear h60 hnm
          go_wp2_with fail
          go_meet
          exact ⟨_, _, rfl, R⟩
        · have hq1 : ¬ (n : Int) < (vals.length : Int) := by omega
          clear hnm
          go_wp2_with fail
          go_meet
          exact ⟨_, _, rfl, R⟩
  case rest =>
    obtain ⟨q2, c2, rfl, H2⟩ := hcut
    obtain ⟨U, hU⟩ : ∃ U, U = wc := ⟨_, rfl⟩
    subst hU
    have BU := Lib.hid (build_any (rowsOf twoR l) 1 q2 c2 W1.heap.size U.heap.size U (by rw [rowsOf_len, HLL.out]; exact H2.out.1) H2.out.2.1 (by rw [rowsOf_len, HLL.out]; omega) H2.out.2.2.1 (Nat.le_refl _)
      (fun r hr => by obtain ⟨x, _, rfl⟩ := List.mem_map.1 hr; simp) (by omega)
      (fun r hr v hv => by
        obtain ⟨x, hx, rfl⟩ := List.mem_map.1 hr
        simp only [twoR, List.mem_cons, List.not_mem_nil, or_false] at hv
        rcases hv with rfl | rfl
        · exact fit_nul
        · exact HF.out.1 _ hx))
    rw [rowsOf_col (fun x => rfl), rowsOf_len, HLL.out] at BU
    clear hnm hnl HL HV
    go_wp2_with fail
    refine (BU.out).mono ?_
    rintro e W3 ⟨⟨p, rfl, hI⟩, hb3⟩
    have hsU := H2.out.2.2.2.size
    have IX := Lib.hid hI
    have RW := Lib.hid (H2.out.2.2.1.same (Same.of hb3 (Nat.le_refl _)))
    have B03 : Below W0.heap.size W0 W3 := HB1.out.trans ((H2.out.2.2.2.mono hs1).trans (hb3.mono (by omega)))
    have hs3 := B03.size
    have hs3U := hb3.size
    have OB := Lib.hid (show W3.cell? ⟨w.heap.size, 0, none⟩ = some (.int .i64 ok) ∧ W3.cell? ⟨w.heap.size, 1, none⟩ = some (.int .i64 on) ∧ W3.cell? ⟨w.heap.size, 2, none⟩ = some (.string os) from ⟨(B03.cell (p := ⟨w.heap.size, 0, none⟩) hz).trans HO.out.1, (B03.cell (p := ⟨w.heap.size, 1, none⟩) hz).trans HO.out.2.1, (B03.cell (p := ⟨w.heap.size, 2, none⟩) hz).trans HO.out.2.2⟩)
    have BW := Lib.hid (HB0.out.trans (B03.mono (by omega)))
    have hc2 : n ≤ c2 ∧ c2 ≤ 9223372036854775807 := ⟨H2.out.1, H2.out.2.1⟩
    clear hI hb3 B03 BU H2 HO HB0 HB1
    go_wp2_with fail
    go_loopw [10] (fun vi wr => ∃ i : Nat, vi = .int .i64 i ∧ i ≤ n + 1 ∧ Hid (Below W3.heap.size W3 wr)) (fun vi _ => n + 1 - (intOf vi).toNat)
    case atStart => exact ⟨0, rfl, Nat.zero_le _, Below.refl _ _⟩
    case round =>
      obtain ⟨i, rfl, hi, HR⟩ := hrel
      obtain ⟨V, hV⟩ : ∃ V, V = wr := ⟨_, rfl⟩
      subst hV
      have hsV := HR.out.size
      have hzV : w.heap.size < W3.heap.size := by omega
      by_cases hin : i ≤ n
      · obtain ⟨tv, hft, hcase⟩ : ∃ tv : Val, FitV tv ∧ ((i < n ∧ l[i]? = some tv) ∨ (i = n ∧ tv = ⟨ok, on, os⟩)) := by
          by_cases h : i < n
          · have hil : i < l.length := by rw [HLL.out]; exact h
            exact ⟨l[i], HF.out.1 _ (List.getElem_mem hil), .inl ⟨h, List.getElem?_eq_getElem hil⟩⟩
          · exact ⟨_, HF.out.2, .inr ⟨by omega, rfl⟩⟩
        have o0 := (HR.out.cell (p := ⟨w.heap.size, 0, none⟩) hzV).trans OB.out.1
        have o1 := (HR.out.cell (p := ⟨w.heap.size, 1, none⟩) hzV).trans OB.out.2.1
        have o2 := (HR.out.cell (p := ⟨w.heap.size, 2, none⟩) hzV).trans OB.out.2.2
        obtain ⟨X, hX⟩ : ∃ X, X = V.alloc (.cells #[.int .i64 ok, .int .i64 on, .string os] 24) := ⟨_, rfl⟩
        have hbX : Below V.heap.size V X := by rw [hX]; (repeat (first | exact ext_refl _ | assumption | (refine ext_alloc ?_ _) | (refine ext_drewN ?_ _) | refine ext_drew ?_ | (refine ext_set (by first | (simp; done) | (simp; omega)) _ ?_) | (refine ext_trans ?_ (by assumption))))
        have xb : X.heap[V.heap.size]? = some (.cells #[.int .i64 ok, .int .i64 on, .string os] 24 (0, 0)) := by rw [hX]; exact heap_alloc_new _ _
        have hzX : V.heap.size < X.heap.size := by rw [hX]; simp
        have XB := Lib.hid (And.intro hbX (And.intro xb hzX))
        have HFT := Lib.hid (And.intro hft hcase)
        go_upto_region 14 with fail
        rw [← hX]
        clear hX o0 o1 o2 hbX xb hft hcase
        obtain ⟨tk, tn, ts⟩ := tv
        go_upto_if 57 with fail
        go_cut [10] (fun v wc => v = .int .i64 (i : Int) ∧ Hid (wc.heap[V.heap.size]? = some (.cells #[.int .i64 tk, .int .i64 tn, .string ts] 24 (0, 0)) ∧ Below V.heap.size V wc ∧ V.heap.size < wc.heap.size))
        case first =>
          rcases HFT.out.2 with ⟨h1, h2⟩ | ⟨h1, h2⟩
          · obtain ⟨g, off, rfl, -, hg, hcR⟩ := (RW.out.same (Same.of (HR.out.trans (XB.out.1.mono hsV)) (by omega))) i (by rw [rowsOf_len, HLL.out]; exact h1)
            obtain ⟨pr, cr, a0, a1, a2, hA⟩ := hcR i (twoR ⟨tk, tn, ts⟩) (by rw [List.getElem?_map, h2]; rfl)
            rw [Nat.mul_one] at a0
            obtain ⟨gr, orr, rfl, -, hgr, hcV⟩ := hA 1 (by simp)
            obtain ⟨e0, e1, e2⟩ := hcV 1 ⟨tk, tn, ts⟩ rfl
            have f0 := fun o => Lib.frozen_of_heap XB.out.2.1 o
            have x0 : X.cell? ⟨V.heap.size, 0, none⟩ = some (.int .i64 ok) := by rw [Lib.cell_of_heap XB.out.2.1]; rfl
            have x1 : X.cell? ⟨V.heap.size, 1, none⟩ = some (.int .i64 on) := by rw [Lib.cell_of_heap XB.out.2.1]; rfl
            have x2 : X.cell? ⟨V.heap.size, 2, none⟩ = some (.string os) := by rw [Lib.cell_of_heap XB.out.2.1]; rfl
            have z1 : (i : Int) < (n : Int) := by omega
            clear hcR hA hcV h1 h2
            go_wp2_with fail
            go_meet
            refine ⟨rfl, cell_set3 XB.out.2.1, ?_, by simp; exact XB.out.2.2⟩
            exact ((XB.out.1.setCell (p := ⟨V.heap.size, 0, none⟩) (Nat.le_refl _) _).setCell (p := ⟨V.heap.size, 1, none⟩) (Nat.le_refl _) _).setCell (p := ⟨V.heap.size, 2, none⟩) (Nat.le_refl _) _
          · have z1 : ¬ (i : Int) < (n : Int) := by omega
            simp only [Val.mk.injEq] at h2
            obtain ⟨rfl, rfl, rfl⟩ := h2
            clear h1
            go_wp2_with fail
            go_meet
            exact ⟨rfl, XB.out.2.1, XB.out.1, XB.out.2.2⟩
        case rest =>
          obtain ⟨rfl, HY⟩ := hcut
          obtain ⟨Y, hY⟩ : ∃ Y, Y = wc := ⟨_, rfl⟩
          subst hY
          have hft := Lib.hid HFT.out.1
          have BY := Lib.hid (HR.out.trans (HY.out.2.1.mono hsV))
          have hsY : W3.heap.size ≤ Y.heap.size := BY.out.size
          have hbY := HY.out.2.2
          clear HFT XB hzX
          go_wp2_with fail
          go_loopw [13, 12] (fun vi vo wr => ∃ k : Nat, vi = .int .i64 k ∧ k ≤ n ∧ (∃ (q : Option Addr) (m c : Nat), vo = .slice q m c) ∧ Hid (OwnN wr Y.heap.size vo (toInts (eqP (l.take k) ⟨tk, tn, ts⟩)) ∧ Below Y.heap.size Y wr)) (fun vi _ _ => n - (intOf vi).toNat)
          case atStart => exact ⟨0, rfl, Nat.zero_le _, ⟨_, _, _, rfl⟩, by rw [List.take_zero, eqP_zero]; exact OwnF.nil _ _ _, Below.refl _ _⟩
          case round =>
            obtain ⟨k, rfl, hk, ⟨qo, mo, co, rfl⟩, HK⟩ := hrel
            obtain ⟨Z, hZ⟩ : ∃ Z, Z = wr := ⟨_, rfl⟩
            subst hZ
            have hsZ := HK.out.2.size
            have tb := (HK.out.2.block V.heap.size hbY).trans HY.out.1
            have t0 : Z.cell? ⟨V.heap.size, 0, none⟩ = some (.int .i64 tk) := by rw [Lib.cell_of_heap tb]; rfl
            have t1 : Z.cell? ⟨V.heap.size, 1, none⟩ = some (.int .i64 tn) := by rw [Lib.cell_of_heap tb]; rfl
            have t2 : Z.cell? ⟨V.heap.size, 2, none⟩ = some (.string ts) := by rw [Lib.cell_of_heap tb]; rfl
            have BZ := Lib.hid (BY.out.trans (HK.out.2.mono hsY))
            clear tb
            by_cases hkn : k < n
            · obtain ⟨x, hx⟩ : ∃ x, l[k]? = some x := ⟨_, List.getElem?_eq_getElem (by rw [HLL.out]; exact hkn)⟩
              have HX := Lib.hid hx
              obtain ⟨g, off, rfl, -, hg, hcR⟩ := (RW.out.same (Same.of BZ.out (by omega))) k (by rw [rowsOf_len, HLL.out]; exact hkn)
              obtain ⟨pr, cr, a0, a1, a2, hA⟩ := hcR k (twoR x) (by rw [List.getElem?_map, hx]; rfl)
              rw [Nat.mul_one] at a0
              obtain ⟨gr, orr, rfl, -, hgr, hcV⟩ := hA 1 (by simp)
              obtain ⟨e0, e1, e2⟩ := hcV 1 x rfl
              have z1 : (k : Int) < (n : Int) := by omega
              have hg2 : Try.prog.eqGuardType Try.prog.depth 24 = false := Try.eqGuard5
              have heq0 : ∀ (W : World) (b : Bool), decide (x.cmp ⟨tk, tn, ts⟩ = 0) = b → (binOp .eql 24 (.agg #[.int .i64 x.k, .int .i64 x.n, .string x.s]) (.agg #[.int .i64 tk, .int .i64 tn, .string ts])).run Try.prog W = .ok (.bool b) W := fun W b h => by
                have := eql6 x ⟨tk, tn, ts⟩ W
                rw [h] at this
                exact this
              have hstep := eqP_step hx ⟨tk, tn, ts⟩
              have HS := Lib.hid hstep
              have hel := eqP_len (l.take k) ⟨tk, tn, ts⟩
              have htl : (toInts (eqP (l.take k) ⟨tk, tn, ts⟩)).length ≤ 60 := by rw [toInts_len]; rw [List.length_take] at hel; omega
              clear hcR hA hcV hx hstep hel
              by_cases hc : x.cmp ⟨tk, tn, ts⟩ = 0
              · have HEQ := Lib.hid (fun W => heq0 W true (decide_eq_true hc))
                clear heq0
                by_cases hk0 : tk = 0
                · have e : eqP (l.take (k + 1)) ⟨tk, tn, ts⟩ = eqP (l.take k) ⟨tk, tn, ts⟩ := by rw [HS.out, if_neg (fun h => h.1 hk0), List.append_nil]
                  have HE := Lib.hid e
                  have HKB := Lib.hid (show (tk != 0) = false by simpa using hk0)
                  clear e HS hk0 hc
                  go_wp2_with fail
                  have hkb : (tk != 0) = false := HKB.out
                  refine wp_region_quiet_lit (by kernel_rfl) (by kernel_rfl) ?_
                  iterate 7 (go_big_quiet_step (fail))
                  go_big_quiet_want
                  refine quiet_eql _ _ 24 _ rfl _ _ _ rfl rfl hg2 HEQ.out ?_
                  go_simp
                  go_big_quiet_on
                  repeat (go_big_quiet_step (fail))
                  refine wpQuiet_nil ?_
                  intro _ hw'
                  obtain ⟨nq, hw''⟩ := hw'
                  subst hw''
                  clear a0 e0 e1 e2 t0 t1 t2 HEQ
                  go_wp2_with fail
                  go_roundw
                  case rel => exact ⟨k + 1, by go_num, hkn, ⟨_, _, _, rfl⟩, by rw [HE.out]; exact HK.out.1.later (ext_drewN (ext_refl _) nq), HK.out.2.trans ((ext_drewN (ext_refl _) nq).mono hsZ)⟩
                  case measure => simp [intOf] <;> omega
                · have e : toInts (eqP (l.take k) ⟨tk, tn, ts⟩) ++ [(k : Int)] = toInts (eqP (l.take (k + 1)) ⟨tk, tn, ts⟩) := by rw [HS.out, if_pos ⟨hk0, hc⟩]; simp [toInts]
                  have HE := Lib.hid e
                  have HKB := Lib.hid (show (tk != 0) = true by simpa using hk0)
                  clear e HS hk0 hc
                  go_wp2_with fail
                  have hkb : (tk != 0) = true := HKB.out
                  refine wp_region_quiet_lit (by kernel_rfl) (by kernel_rfl) ?_
                  iterate 7 (go_big_quiet_step (fail))
                  go_big_quiet_want
                  refine quiet_eql _ _ 24 _ rfl _ _ _ rfl rfl hg2 HEQ.out ?_
                  go_simp
                  go_big_quiet_on
                  repeat (go_big_quiet_step (fail))
                  refine wpQuiet_nil ?_
                  intro _ hw'
                  obtain ⟨nq, hw''⟩ := hw'
                  subst hw''
                  obtain ⟨Q, hQ⟩ : ∃ Q, Q = Z.drewN nq := ⟨_, rfl⟩
                  rw [← hQ]
                  have hbQ : Below Z.heap.size Z Q := by rw [hQ]; exact ext_drewN (ext_refl _) nq
                  have hb2 : Below Z.heap.size Z (Q.alloc (.cells #[.int .i64 (k : Int)] 3)) := ext_alloc hbQ _
                  have OO := Lib.hid (show OwnN (Q.alloc (.cells #[.int .i64 (k : Int)] 3)) Y.heap.size (.slice qo mo co) (toInts (eqP (l.take k) ⟨tk, tn, ts⟩)) from HK.out.1.later hb2)
                  have HR1 := Lib.hid (one_block (W := Q) numCell_len 3 #[.int .i64 (k : Int)] (k : Int) rfl Q.heap.size rfl)
                  have HE2 := Lib.hid (show Below Y.heap.size Y (Q.alloc (.cells #[.int .i64 (k : Int)] 3)) from HK.out.2.trans (hb2.mono hsZ))
                  clear hQ hbQ hb2 a0 e0 e1 e2 t0 t1 t2 HEQ HKB hkb
                  go_wp2_with (at_builtin; refine wp_append_flat rfl _ _ 31 3 rfl Try.underlying31 _ 8 Try.infoIntX rfl (by omega) numCell_len numCell_one Y.heap.size _ (toInts (eqP (l.take k) ⟨tk, tn, ts⟩)) rfl OO.out _ _ _ [(k : Int)] rfl rfl 0 (Q.heap.size + 1) HR1.out ?l1 ?l2 HE2.out.size ?_)
                  case l1 => rw [toInts_len] at htl; unfold maxLen; simp; omega
                  case l2 => rw [toInts_len] at htl; simp; omega
                  intro v3 w3 O3 b3 o3
                  rw [HE.out] at O3
                  obtain ⟨q3, c3, rfl, -⟩ := O3.arr numCell_len
                  have NX := Lib.hid (And.intro O3 (HE2.out.trans b3))
                  clear O3 b3 o3 OO HR1 HE2
                  go_wp2_with fail
                  go_roundw
                  case rel => exact ⟨k + 1, by go_num, hkn, ⟨_, _, _, rfl⟩, NX⟩
                  case measure => simp [intOf] <;> omega
              · have HEQ := Lib.hid (fun W => heq0 W false (decide_eq_false hc))
                have e : eqP (l.take (k + 1)) ⟨tk, tn, ts⟩ = eqP (l.take k) ⟨tk, tn, ts⟩ := by rw [HS.out, if_neg (fun h => hc h.2), List.append_nil]
                have HE := Lib.hid e
                clear e HS heq0 hc
                go_wp2_with fail
                refine wp_region_quiet_lit (by kernel_rfl) (by kernel_rfl) ?_
                iterate 7 (go_big_quiet_step (fail))
                go_big_quiet_want
                refine quiet_eql _ _ 24 _ rfl _ _ _ rfl rfl hg2 HEQ.out ?_
                go_simp
                go_big_quiet_on
                repeat (go_big_quiet_step (fail))
                refine wpQuiet_nil ?_
                intro _ hw'
                obtain ⟨nq, hw''⟩ := hw'
                subst hw''
                clear a0 e0 e1 e2 t0 t1 t2 HEQ
                go_wp2_with fail
                go_roundw
                case rel => exact ⟨k + 1, by go_num, hkn, ⟨_, _, _, rfl⟩, by rw [HE.out]; exact HK.out.1.later (ext_drewN (ext_refl _) nq), HK.out.2.trans ((ext_drewN (ext_refl _) nq).mono hsZ)⟩
                case measure => simp [intOf] <;> omega
            · have hkn' : n = k := by omega
              subst hkn'
              obtain ⟨h1, h2⟩ := HK.out
              rw [← HLL.out, List.take_length] at h1
              obtain ⟨qw, cw, ew, hw1⟩ := h1.ints
              simp only [Value.slice.injEq] at ew
              obtain ⟨e1, e2, e3⟩ := ew
              subst e1 e3
              rw [e2, toInts_len]
              clear e2
              have IZ := IX.out.keep BZ.out
              have EQ := Lib.hid (eq_any Z _ p l ⟨tk, tn, ts⟩ IZ)
              have HS := Lib.hid (fun W' (hb : Below Z.heap.size Z W') => hash_any W' _ p l ⟨tk, tn, ts⟩ (IZ.later hb) hft.out)
              obtain ⟨A, hA⟩ : ∃ A, A = eqP l ⟨tk, tn, ts⟩ := ⟨_, rfl⟩
              rw [← hA] at hw1 EQ HS ⊢
              have HW1 := Lib.hid hw1
              have HKB := Lib.hid h2
              clear h1 h2 hw1 IZ HK hA
              have tb := Lib.hid (show Z.heap[V.heap.size]? = some (.cells #[.int .i64 tk, .int .i64 tn, .string ts] 24 (0, 0)) from (HKB.out.block V.heap.size hbY).trans HY.out.1)
              have hbZ : V.heap.size < Z.heap.size := Nat.lt_of_lt_of_le hbY hsZ
              go_wp2_with fail
              refine (EQ.out).mono ?_
              rintro e w5 ⟨⟨q5, c5, rfl, o5⟩, hb5⟩
              have NS := Lib.hid (numbers_same (toInts A) q5 qo c5 co Z.heap.size w5.heap.size Y.heap.size Z.heap.size w5 o5.le o5.le2 HW1.out.le o5.arr (HW1.out.arr.same (Same.of hb5 (Nat.le_refl _))))
              rw [toInts_len] at NS
              have B5 := Lib.hid hb5
              clear t0 t1 t2 o5 hb5 EQ
              go_wp2_with fail
              refine (NS.out).mono ?_
              rintro e w6 ⟨rfl, hb6⟩
              have B6 := Lib.hid (B5.out.trans (hb6.mono B5.out.size))
              have tb6 := (B6.out.block V.heap.size hbZ).trans tb.out
              have t0 : w6.cell? ⟨V.heap.size, 0, none⟩ = some (.int .i64 tk) := by rw [Lib.cell_of_heap tb6]; rfl
              have t1 : w6.cell? ⟨V.heap.size, 1, none⟩ = some (.int .i64 tn) := by rw [Lib.cell_of_heap tb6]; rfl
              have t2 : w6.cell? ⟨V.heap.size, 2, none⟩ = some (.string ts) := by rw [Lib.cell_of_heap tb6]; rfl
              clear hb6 NS B5 tb6
              go_wp2_with fail
              refine (HS.out w6 B6.out).mono ?_
              rintro e w7 ⟨⟨q7, c7, rfl, o7⟩, hb7⟩
              have B7 := Lib.hid (B6.out.trans (hb7.mono B6.out.size))
              have NS := Lib.hid (numbers_same (toInts A) q7 qo c7 co w6.heap.size w7.heap.size Y.heap.size Z.heap.size w7 o7.le o7.le2 HW1.out.le o7.arr (HW1.out.arr.same (Same.of B7.out (Nat.le_refl _))))
              rw [toInts_len] at NS
              clear t0 t1 t2 o7 hb7 B6 HS
              go_wp2_with fail
              refine (NS.out).mono ?_
              rintro e w8 ⟨rfl, hb8⟩
              have B8 := Lib.hid (BZ.out.trans ((B7.out.trans (hb8.mono B7.out.size)).mono BZ.out.size))
              clear hb8 NS B7 HW1 tb
              go_wp2_with fail
              go_roundw
              case rel => exact ⟨i + 1, by go_num, by omega, B8⟩
              case measure => simp [intOf] <;> omega
      · have hin' : i = n + 1 := by omega
        subst hin'
        go_wp2_with fail
        go_ret
        exact ⟨rfl, BW.out.trans (HR.out.mono (by omega))⟩

/- FRAME -/

set_option maxRecDepth 100000 in
theorem indexFinds_lifted (os : Os) (started : os.Started) (H : Type) (enc : TypeId × Value → H) :
    ReturnsInHanded {} Try.checked os 3 .any (Rows.indexFindsSpec.pre6 enc Try.prog Try.f3 Rows.indexFindsRow.domain false) (Rows.indexFindsSpec.post enc Try.prog Try.f3 false true false false) := by
  refine returnsInHanded_of_change_sized (C := Try.checked) Try.own started (by kernel_rfl) Try.func3
    (ChangeSpec.witness6 (enc := enc) (C := Try.checked) false ⟨#[], #[.slice none 0 0, .agg #[.int .i64 0, .int .i64 0, .string ⟨#[]⟩]], []⟩ 8 (by kernel_rfl) (by kernel_rfl) (by kernel_rfl) (by kernel_rfl)) ?_
  intro W base args ds gs before hval0 hW _ hsz _
  have hval : ∀ (j : Nat) t v, Try.f3.params[j]? = some t → args[j]? = some v → Value.okWide Try.prog W .any base t v := hval0
  have hW' := hW
  obtain ⟨p, q, hA0, hV, rfl, _, _⟩ := hW
  have hA : DataW.TrodAll enc Try.prog W 0 (fun _ => true) true Try.f3.params.toList args.toList ds p := hA0
  rw [Try.params3] at hA hval hsz
  obtain ⟨v0, v1, d0, d1, p0, p1, rfl, rfl, rfl, h0, h1⟩ := trodAll_two hA
  obtain ⟨x1, rfl, fx1⟩ := open_valx (hval 1 24 v1 rfl rfl) h1
  obtain ⟨q0, L0, c0, rfl, le0, m0, tx0, fx0⟩ := open_rowx (hval 0 22 v0 rfl rfl) h0 (fun n hn => of_decide_eq_true (List.all_eq_true.1 hsz _ (DataW.weights_mem_each (j := 0) (t := 22) rfl rfl n hn)))
  clear hA0 hval0
  refine (finds_walk L0 q0 c0 x1 W le0 m0 tx0 fx0 fx1).mono fun e W' ⟨he, hb⟩ => ⟨_, he, post_law rfl hW' rfl rfl ?_ hb⟩
  intro t ht
  rw [Try.params3] at ht
  simp only [List.mem_cons, List.not_mem_nil, or_false] at ht
  rcases ht with rfl | rfl <;> exact ⟨by kernel_rfl, of_decide_eq_true (by kernel_rfl)⟩

theorem indexFinds_holds : Rows.IndexFindsSaid :=
  OpenClaim.holds_of_wide 3 Try.f3 rfl rfl rfl rfl rfl rfl rfl ⟨rfl, rfl, rfl, rfl, rfl⟩ rfl rfl rfl rfl rfl (by kernel_rfl) Try.func3 (by kernel_rfl)
    (of_decide_eq_true (by kernel_rfl)) (by unfold Func.isWrapper; rw [if_neg (of_decide_eq_false (by kernel_rfl))]; exact ⟨rfl, rfl⟩)
    (fun os started H enc _ => indexFinds_lifted os started H enc)

#print axioms indexFinds_holds

end Go.Proofs.Ytflbeccfdbjbhaa
