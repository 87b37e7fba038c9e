/- Build: an index of a column. -/
import Derived.Test.YtflbeccfdbjbhaaIxR
namespace Go.Proofs.Ytflbeccfdbjbhaa
open Go.RowKit Go.Maps Go.ChangeShapes
set_option maxRecDepth 100000

/-- The values in a column. -/
def colL (rows : List (List Val)) (col : Nat) : List Val := rows.map fun r => (r[col]?).getD nul
theorem colL_len (rows : List (List Val)) (col : Nat) : (colL rows col).length = rows.length := List.length_map _
theorem colL_at {rows : List (List Val)} {col i : Nat} {r : List Val} {x : Val} (h : rows[i]? = some r) (hx : r[col]? = some x) : (colL rows col)[i]? = some x := by unfold colL; rw [List.getElem?_map, h]; simp [hx]
theorem take_push {α : Type} {l : List α} {i : Nat} {x : α} (h : l[i]? = some x) : l.take i ++ [x] = l.take (i + 1) := by rw [List.take_add_one, h]; rfl

theorem Try.infoValX : (Try.prog.info? 24).map (fun i => (i.zero, i.size, i.bytes)) = some (some (.agg #[.int .i64 0, .int .i64 0, .string ⟨#[]⟩]), 3, 32) := by kernel_rfl
abbrev vCell (x : Val) : List Value := [.int .i64 x.k, .int .i64 x.n, .string x.s]
theorem vCell_len (x : Val) : (vCell x).length = 3 := rfl
theorem vCell_one (x : Val) (u : Value) (h : u ∈ vCell x) : u.oneCell' = true := by simp at h; rcases h with rfl | rfl | rfl <;> rfl
theorem v_valsA {w : World} {lo hi : Nat} {q : Option Addr} {l : List Val} (h : ArrA lo hi q 3 l (fun g o x => ∀ (k : Nat) u, (vCell x)[k]? = some u → w.cell? ⟨g, o + k, none⟩ = some u)) : ValsA w lo hi q l :=
  ArrA.imp h fun _ _ _ _ _ h => ⟨h 0 _ rfl, h 1 _ rfl, h 2 _ rfl⟩

theorem groups_none (w : World) (m base : Nat) (h : w.heap[m]? = some (.map #[] 0)) (hb : m < base) : w.ownsGroups (H := Unit) Try.prog 24 base 3 .i64 m 0 (.map []) :=
  ⟨#[], 0, h, ⟨by simp, MapKept.stamped_empty 0, by simp⟩, Nat.le_refl _, rfl, hb, by simp, by simp⟩
theorem groups_tidy {w : World} {base m n : Nat} {D : DataW Unit} (h : w.ownsGroups Try.prog 24 base 3 .i64 m n D) : Tidy D := by
  obtain ⟨es, clock, e1, e2, e3, e4, -⟩ := h
  exact (show w.ownsMap Try.prog 24 (rowElem w base 3 .i64) m n D from ⟨es, clock, e1, e2, e3, e4⟩).tidy Try.lawVal

set_option maxHeartbeats 4000000 in
theorem build_any (rows : List (List Val)) (col : Nat) (q : Option Addr) (c bl bh : Nat) (w : World) (_ : rows.length ≤ c) (_ : c ≤ 9223372036854775807) (hl : rows.length ≤ 1000) (hR : RowsA w bl bh q rows) (hh : bh ≤ w.heap.size) (hcol : ∀ r ∈ rows, col < r.length) (hco : col ≤ 1000000) (hf : ∀ r ∈ rows, ∀ v ∈ r, FitV v) :
    Calls Try.prog 6 #[.slice q rows.length c, .int .i64 (col : Int)] w fun e w' => (∃ p, e = .returned (.tuple #[.pointer (some ⟨p, 0, none⟩), .int .i64 0]) ∧ IxP w' w'.heap.size p (colL rows col)) ∧ Below w.heap.size w w' := by
  obtain ⟨i0, hi0, hz0, hz1, hz2⟩ := info_parts Try.infoValX
  have hmm := @run_makeMap Try.prog
  have hcl := colL_len rows col
  have HR := Lib.hid hR
  have HC := Lib.hid hcol
  have HF := Lib.hid (show ∀ v ∈ colL rows col, FitV v from fun v hv => by
    unfold colL at hv
    obtain ⟨r, hr, rfl⟩ := List.mem_map.1 hv
    have h1 := hcol r hr
    rw [List.getElem?_eq_getElem h1]
    exact hf r hr _ (List.getElem_mem h1))
  obtain ⟨l, hl'⟩ : ∃ l, l = colL rows col := ⟨_, rfl⟩
  rw [← hl'] at HF hcl ⊢
  have HCL := Lib.hid hcl
  have HLL := Lib.hid hl'
  clear hR hcol hf hcl hl'
  go_enter Try.func6, Try.ntmps6
  go_wp2_with (refine wpList_make_own _ rfl _ _ 22 rfl w.heap.size 24 i0 _ 3 Try.underlying22 hi0 hz0 hz1 .i64 .i64 (rows.length : Int) rows.length rfl rfl rfl ?k1 ?k2 (Nat.le_refl _) ?_)
  case k1 => rw [hz2]; omega
  case k2 => unfold maxLen; omega
  intro w1 O1 g1
  have HB := Lib.hid (show Below w.heap.size w w1 from (Below.refl _ _).grown g1 (Nat.le_refl _) (fun k hk => by cases hk))
  have HO := Lib.hid (show OwnF w1 w.heap.size 24 3 vCell (.slice (some ⟨w.heap.size, 0, none⟩) 0 rows.length) [] from O1)
  clear O1 g1
  go_upto_block 0 with fail
  go_cut [6, 8, 17, 18, 19, 20, 21, 22, 23, 24, 25, 26, 27, 28, 29, 30, 31, 32, 33, 34, 35, 36] (fun v _ _ _ _ _ _ _ _ _ _ _ _ _ _ _ _ _ _ _ _ _ wc => ∃ q2 c2, v = .slice q2 rows.length c2 ∧ Hid (OwnF wc w.heap.size 24 3 vCell (.slice q2 rows.length c2) (l) ∧ Below w.heap.size w wc))
  case first =>
    go_wp2_with fail
    go_loopw [17, 6] (fun vi vo wr => ∃ i : Nat, vi = .int .i64 i ∧ i ≤ rows.length ∧ (∃ (q : Option Addr) (n k : Nat), vo = .slice q n k) ∧ Hid (OwnF wr w.heap.size 24 3 vCell vo ((l).take i) ∧ Below w.heap.size w wr)) (fun vi _ _ => rows.length - (intOf vi).toNat)
    case atStart => exact ⟨0, rfl, Nat.zero_le _, ⟨_, _, _, rfl⟩, HO.out, HB.out⟩
    case round =>
      obtain ⟨i, rfl, hi, ⟨q0, n0, k0, rfl⟩, HH⟩ := hrel
      clear HB HO
      obtain ⟨V, hV⟩ : ∃ V, V = wr := ⟨_, rfl⟩
      subst hV
      have hsV := HH.out.2.size
      by_cases hlt : i < rows.length
      · obtain ⟨g, off, rfl, hg1, hg2, hcA⟩ := (HR.out.same (Same.of HH.out.2 hh)) i hlt
        obtain ⟨r, hr⟩ : ∃ r, rows[i]? = some r := ⟨_, List.getElem?_eq_getElem hlt⟩
        have hcr := HC.out r (List.mem_of_getElem? hr)
        obtain ⟨x, hx⟩ : ∃ x, r[col]? = some x := ⟨_, List.getElem?_eq_getElem hcr⟩
        have hxi : l[i]? = some x := by rw [HLL.out]; exact colL_at hr hx
        obtain ⟨pr, cr, a0, a1, a2, hA⟩ := hcA i r hr
        rw [Nat.mul_one] at a0
        obtain ⟨gr, orr, rfl, hgr1, hgr2, hcR⟩ := hA col hcr
        obtain ⟨e0, e1, e2⟩ := hcR col x hx
        have HXI := Lib.hid (take_push hxi)
        have htl : ((l).take i).length ≤ 1000 := by rw [List.length_take, HCL.out]; omega
        have z1 : (col : Int) < (r.length : Int) := by omega
        have z2 : ¬ (col : Int) < 0 := by omega
        have z3 : ¬ (col : Int) ≥ (r.length : Int) := by omega
        clear hcA hA hcR hxi hx hr hcr
        obtain ⟨xk, xn, xs⟩ := x
        have hb2 : Below V.heap.size V (V.alloc (.cells #[.int .i64 xk, .int .i64 xn, .string xs] 24)) := by (repeat (first | exact ext_refl _ | assumption | (refine ext_alloc ?_ _) | (refine ext_drewN ?_ _) | refine ext_drew ?_ | (refine ext_set (by first | (simp; done) | (simp; omega)) _ ?_) | (refine ext_trans ?_ (by assumption))))
        have OO := Lib.hid (show OwnF (V.alloc (.cells #[.int .i64 xk, .int .i64 xn, .string xs] 24)) w.heap.size 24 3 vCell (.slice q0 n0 k0) ((l).take i) from HH.out.1.later hb2)
        have HR1 := Lib.hid (one_block (W := V) vCell_len 24 #[.int .i64 xk, .int .i64 xn, .string xs] ⟨xk, xn, xs⟩ rfl V.heap.size rfl)
        have HE := Lib.hid (show Below w.heap.size w (V.alloc (.cells #[.int .i64 xk, .int .i64 xn, .string xs] 24)) from HH.out.2.trans (hb2.mono hsV))
        clear hb2 HH
        go_wp2_with (at_builtin; refine wp_append_flat rfl _ _ 22 24 rfl Try.underlying22 _ 32 Try.infoValX rfl (by omega) vCell_len vCell_one w.heap.size _ ((l).take i) rfl OO.out _ _ _ [(⟨xk, xn, xs⟩ : Val)] rfl rfl 0 (V.heap.size + 1) HR1.out ?l1 ?l2 HE.out.size ?_)
        case l1 => unfold maxLen; have := Nat.min_le_left i l.length; simp; omega
        case l2 => have := Nat.min_le_left i l.length; simp; omega
        intro v3 w3 O3 b3 o3
        rw [HXI.out] at O3
        obtain ⟨q3, c3, rfl, -⟩ := O3.arr vCell_len
        have NX := Lib.hid (And.intro O3 (HE.out.trans b3))
        clear O3 b3 o3 OO HR1 HE
        go_wp2_with fail
        go_roundw
        case rel => exact ⟨i + 1, by go_num, hlt, ⟨_, _, _, rfl⟩, NX⟩
        case measure => simp [intOf] <;> omega
      · obtain rfl : i = rows.length := by omega
        obtain ⟨h1, h2⟩ := HH.out
        rw [List.take_of_length_le (Nat.le_of_eq HCL.out)] at h1
        obtain ⟨q3, c3, e3, -⟩ := h1.arr vCell_len
        rw [HCL.out] at e3
        simp only [Value.slice.injEq] at e3
        obtain ⟨rfl, rfl, rfl⟩ := e3
        have NX := Lib.hid (And.intro h1 h2)
        clear h1 h2 HH
        go_wp2_with fail
        go_meet
        exact ⟨_, _, rfl, NX⟩
  case rest =>
    obtain ⟨q2, c2, rfl, H2⟩ := hcut
    obtain ⟨W, hW⟩ : ∃ W, W = wc := ⟨_, rfl⟩
    subst hW
    clear HB HO
    have hll : l.length ≤ 1000 := by rw [HCL.out]; exact hl
    obtain ⟨hO, hB⟩ := H2.out
    obtain ⟨q2', c2', e2, hc1, hc2', hfr, hA⟩ := hO.arr vCell_len
    rw [HCL.out] at e2
    simp only [Value.slice.injEq, true_and] at e2
    obtain ⟨rfl, rfl⟩ := e2
    have hVA := v_valsA hA
    have hsW := hB.size
    have OR := Lib.hid (ordered_any l q2 c2 w.heap.size W.heap.size W hc1 hc2' (by omega) hVA (Nat.le_refl _))
    rw [HCL.out] at OR
    have HV := Lib.hid (And.intro hVA (And.intro hc1 hc2'))
    have HB := Lib.hid hB
    clear hO hA hVA hfr H2 HR HC hB HLL hc1 hc2'
    go_wp2_with fail
    refine (OR.out).mono ?_
    rintro e w2 ⟨⟨q3, c3, rfl, hOI⟩, hb2⟩
    have hs2 := hb2.size
    obtain ⟨m, hm⟩ : ∃ m, m = w2.heap.size := ⟨_, rfl⟩
    obtain ⟨W3, hW3⟩ : ∃ W3, W3 = (w2.alloc (.map #[] 0)).alloc (.cells #[.slice q2 rows.length c2, .slice q3 rows.length c3, .map (some w2.heap.size)] 45) := ⟨_, rfl⟩
    have HB3 : Below w2.heap.size w2 W3 := by rw [hW3]; (repeat (first | exact ext_refl _ | assumption | (refine ext_alloc ?_ _) | (refine ext_drewN ?_ _) | refine ext_drew ?_ | (refine ext_set (by first | (simp; done) | (simp; omega)) _ ?_) | (refine ext_trans ?_ (by assumption))))
    have hz3 : W3.heap.size = m + 2 := by rw [hW3, hm]; simp
    have hmap : W3.heap[m]? = some (.map #[] 0) := by
      rw [hW3, hm]
      have h1 := heap_alloc_new w2 (.map #[] 0)
      rw [heap_alloc_old _ _ (by simp)]
      exact h1
    have p0 : W3.cell? ⟨m + 1, 0, none⟩ = some (.slice q2 rows.length c2) := by rw [hW3, hm]; simp [go_sem]
    have p1 : W3.cell? ⟨m + 1, 1, none⟩ = some (.slice q3 rows.length c3) := by rw [hW3, hm]; simp [go_sem]
    have p2 : W3.cell? ⟨m + 1, 2, none⟩ = some (.map (some m)) := by rw [hW3, hm]; simp [go_sem]
    have G0 := groups_none W3 m (m + 2) hmap (by omega)
    have HW3 := Lib.hid hW3
    have hmw : W.heap.size ≤ m := by rw [hm]; exact hs2
    have H3 := Lib.hid (show OwnInts w2 W.heap.size q3 c3 (toInts (allP l)) ∧ Below W.heap.size W w2 ∧ Below w2.heap.size w2 W3 from ⟨hOI, hb2, HB3⟩)
    have HG := Lib.hid (And.intro G0 (And.intro p0 (And.intro p1 p2)))
    have HM := Lib.hid hm
    have hz3l : m + 1 < W3.heap.size := by omega
    have hz3u : m + 2 ≤ W3.heap.size := by omega
    clear hOI hb2 HB3 G0 p0 p1 p2 hmap OR hW3 hz3 hs2
    rw [← HM.out] at HW3
    clear hm
    go_wp2_with fail
    rw [← HM.out, ← HW3.out]
    go_loopw [45] (fun vi wr => ∃ i : Nat, vi = .int .i64 i ∧ i ≤ rows.length ∧ Hid (∃ (n : Nat) (D : DataW Unit), n ≤ i ∧ wr.ownsGroups Try.prog 24 (m + 2) 3 .i64 m n D ∧ GD D (l.take i) ∧ Out (fun k => k = m ∨ m + 2 ≤ k) W3 wr)) (fun vi _ => rows.length - (intOf vi).toNat)
    case atStart => exact ⟨0, rfl, Nat.zero_le _, 0, _, Nat.le_refl _, HG.out.1, GD.none, Out.refl _ _⟩
    case round =>
      obtain ⟨i, rfl, hi, HH⟩ := hrel
      obtain ⟨V, hV⟩ : ∃ V, V = wr := ⟨_, rfl⟩
      subst hV
      obtain ⟨n, D, hn, hown, hGD, hout⟩ := HH.out
      have hsV := hout.size
      have FAR : ∀ (W' : World), Out (fun k => k = m ∨ m + 2 ≤ k) W3 W' → ∀ k, k < m → W'.heap[k]? = w2.heap[k]? := fun W' ho k hk => by
        rw [ho.block k (by omega) (by omega)]
        exact H3.out.2.2.block k (by rw [← HM.out]; exact hk)
      have SAME : ∀ (W' : World), Out (fun k => k = m ∨ m + 2 ≤ k) W3 W' → Same 0 W.heap.size W W' := fun W' ho => ⟨fun k _ hk => (FAR W' ho k (by omega)).trans (H3.out.2.1.block k hk)⟩
      by_cases hlt : i < rows.length
      · have hil : i < l.length := by rw [HCL.out]; exact hlt
        obtain ⟨x, hx⟩ : ∃ x, l[i]? = some x := ⟨_, List.getElem?_eq_getElem hil⟩
        have hfx := HF.out x (List.mem_of_getElem? hx)
        obtain ⟨g, off, rfl, hg1, hg2, hcA⟩ := (ValsA.same (show ValsA W 0 W.heap.size q2 l from ArrA.wide HV.out.1 (Nat.zero_le _) (Nat.le_refl _)) (SAME V hout)) i hil
        obtain ⟨e0, e1, e2⟩ := hcA i x hx
        have FH := Lib.hid (And.intro FAR SAME)
        have HX := Lib.hid (And.intro hx hfx)
        have HN := Lib.hid (And.intro hn (And.intro hown (And.intro hGD hout)))
        clear hcA hx hfx FAR SAME hn hown hGD hout HH hil
        obtain ⟨xk, xn, xs⟩ := x
        have BX : Below V.heap.size V (V.alloc (.cells #[.int .i64 xk, .int .i64 xn, .string xs] 24)) := by (repeat (first | exact ext_refl _ | assumption | (refine ext_alloc ?_ _) | (refine ext_drewN ?_ _) | refine ext_drew ?_ | (refine ext_set (by first | (simp; done) | (simp; omega)) _ ?_) | (refine ext_trans ?_ (by assumption))))
        have x0 : (V.alloc (.cells #[.int .i64 xk, .int .i64 xn, .string xs] 24)).cell? ⟨V.heap.size, 0, none⟩ = some (.int .i64 xk) := by simp [go_sem]
        have x1 : (V.alloc (.cells #[.int .i64 xk, .int .i64 xn, .string xs] 24)).cell? ⟨V.heap.size, 1, none⟩ = some (.int .i64 xn) := by simp [go_sem]
        have x2 : (V.alloc (.cells #[.int .i64 xk, .int .i64 xn, .string xs] 24)).cell? ⟨V.heap.size, 2, none⟩ = some (.string xs) := by simp [go_sem]
        have zx : V.heap.size < (V.alloc (.cells #[.int .i64 xk, .int .i64 xn, .string xs] 24)).heap.size := by simp
        obtain ⟨WX, hWX⟩ : ∃ WX, WX = V.alloc (.cells #[.int .i64 xk, .int .i64 xn, .string xs] 24) := ⟨_, rfl⟩
        rw [← hWX] at BX x0 x1 x2 zx
        have NU := Lib.hid (isNull_any ⟨xk, xn, xs⟩ WX)
        go_upto_region 13 with fail
        rw [← hWX]
        clear hWX e0 e1 e2
        go_wp2_with fail
        refine (NU.out).mono ?_
        rintro e W5 ⟨rfl, hb5⟩
        have B5 : Below V.heap.size V W5 := BX.trans (hb5.mono (Nat.le_of_lt zx))
        have hs5 : V.heap.size ≤ W5.heap.size := B5.size
        have y0 := (hb5.cell (p := ⟨V.heap.size, 0, none⟩) zx).trans x0
        have y1 := (hb5.cell (p := ⟨V.heap.size, 1, none⟩) zx).trans x1
        have y2 := (hb5.cell (p := ⟨V.heap.size, 2, none⟩) zx).trans x2
        have zx5 : V.heap.size < W5.heap.size := Nat.lt_of_lt_of_le zx hb5.size
        have keepG : ∀ W', Below V.heap.size V W' → W'.ownsGroups Try.prog 24 (m + 2) 3 .i64 m n D ∧ Out (fun k => k = m ∨ m + 2 ≤ k) W3 W' := fun W' hb =>
          ⟨HN.out.2.1.kept (row := none) ⟨hb.os, hb.tape, hb.output, hb.size, fun k hk _ => hb.block k hk⟩ (by simp) (fun _ _ _ x _ => by cases x.val.ownBlock <;> simp), HN.out.2.2.2.trans (Out.of hb)⟩
        have KG := Lib.hid keepG
        have HB5 := Lib.hid B5
        clear BX x0 x1 x2 zx hb5 NU keepG B5
        by_cases hk : xk = 0
        · have hkd : decide (xk = 0) = true := decide_eq_true hk
          have HK := Lib.hid hk
          clear hk y0 y1 y2
          go_wp2_with fail
          go_roundw
          case rel => exact ⟨i + 1, by go_num, hlt, n, D, by have := HN.out.1; omega, (KG.out W5 HB5.out).1, HN.out.2.2.1.null HX.out.1 HK.out, (KG.out W5 HB5.out).2⟩
          case measure => simp [intOf] <;> omega
        · have hkd : decide (xk = 0) = false := decide_eq_false hk
          have HK := Lib.hid hk
          have o5 := (KG.out W5 HB5.out).2
          have hm1 : m + 1 < W5.heap.size := by omega
          have y3 : W5.cell? ⟨m + 1, 2, none⟩ = some (.map (some m)) := by
            have hb := o5.block (m + 1) hz3l (by omega)
            exact (World.cell?_of_block (a := ⟨m + 1, 2, none⟩) hb).trans HG.out.2.2.2
          have r0 := fun (z : After W5) => (z.cell V.heap.size 0 zx5).trans y0
          have r1 := fun (z : After W5) => (z.cell V.heap.size 1 zx5).trans y1
          have r2 := fun (z : After W5) => (z.cell V.heap.size 2 zx5).trans y2
          have r3 := fun (z : After W5) => (z.cell (m + 1) 2 hm1).trans y3
          have is := After.some W5
          have hi6 : i ≤ 1000 := by omega
          have hn6 : n ≤ 1000 := by have := HN.out.1; omega
          have hm2 : m + 2 ≤ W5.heap.size := by omega
          clear y0 y1 y2 y3 hk o5
          go_wp2_with fail
          refine wp_region_after_tail 6 (by kernel_rfl) (by kernel_rfl) ?_
          simp only [List.take_succ_cons, List.take_zero, List.drop_succ_cons, List.drop_zero]
          repeat (quiet_step (fail))
          refine wpQuiet_nil ?_
          intro W6 hw
          have hb6 : Below W5.heap.size W5 W6 := by obtain ⟨x, rfl⟩ := hw; exact x.below
          clear r0 r1 r2 r3 is hw
          have K6 := KG.out W6 (HB5.out.trans (hb6.mono hs5))
          have hs6 := hb6.size
          have AD := Lib.hid (add_any W6 m n (m + 2) i D ⟨xk, xn, xs⟩ (toInts (eqP (l.take i) ⟨xk, xn, xs⟩)) HX.out.2 K6.1 (HN.out.2.2.1.at_ _ HX.out.2) (by omega) (by omega) (by omega))
          have NX := Lib.hid (show GD (D.put (vkey ⟨xk, xn, xs⟩) (datum (toInts (eqP (l.take i) ⟨xk, xn, xs⟩) ++ [(i : Int)]))) (l.take (i + 1)) from HN.out.2.2.1.put (groups_tidy K6.1) HX.out.1 HX.out.2 HK.out)
          have O6 := Lib.hid K6.2
          clear K6 hb6
          go_wp2_with fail
          refine (AD.out).mono ?_
          rintro e W7 ⟨rfl, g7, o7⟩
          have R := Lib.hid (And.intro g7 (O6.out.trans o7))
          clear g7 o7 AD
          go_wp2_with fail
          go_roundw
          case rel => exact ⟨i + 1, by go_num, hlt, n + 1, _, by have := HN.out.1; omega, R.out.1, NX.out, R.out.2⟩
          case measure => simp [intOf] <;> omega
      · obtain rfl : i = rows.length := by omega
        rw [← HCL.out, List.take_length] at hGD
        have hsz : W.heap.size ≤ V.heap.size := by omega
        have hw2 : w2.heap.size ≤ V.heap.size := by rw [← HM.out]; omega
        have hpb : V.heap[m + 1]? = W3.heap[m + 1]? := hout.block (m + 1) hz3l (by omega)
        have SM2 : Same W.heap.size w2.heap.size w2 V := ⟨fun k _ hk => FAR V hout k (by rw [HM.out]; exact hk)⟩
        have IX : IxP V V.heap.size (m + 1) l := by
          refine ⟨V, rfl, Below.refl _ _, ⟨hll, ⟨q2, c2, w.heap.size, W.heap.size, ?_, HV.out.2.1, HV.out.2.2, HV.out.1.same ⟨fun k _ hk => (SAME V hout).block k (Nat.zero_le _) hk⟩, hsz⟩, ⟨q3, c3, W.heap.size, w2.heap.size, ?_, ?_, H3.out.1.le2, H3.out.1.arr.same SM2, hw2⟩⟩, HF.out, m, ?_, ⟨n, m + 2, D, by omega, hown, hGD⟩⟩
          · rw [HCL.out]; exact (World.cell?_of_block (a := ⟨m + 1, 0, none⟩) hpb).trans HG.out.2.1
          · rw [HCL.out]; exact (World.cell?_of_block (a := ⟨m + 1, 1, none⟩) hpb).trans HG.out.2.2.1
          · have := H3.out.1.le; rwa [toInts_len, allP_len] at this
          · exact (World.cell?_of_block (a := ⟨m + 1, 2, none⟩) hpb).trans HG.out.2.2.2
        have BE : Below w.heap.size w V := by
          have h1 := HB.out.trans (H3.out.2.1.mono hsW)
          refine h1.trans (((H3.out.2.2.mono (by rw [← HM.out]; omega)).trans (hout.below (by omega) (fun k hk => by omega))))
        have R := Lib.hid (And.intro IX BE)
        clear IX BE SM2 hpb FAR SAME hown hGD hout HH
        go_wp2_with fail
        go_ret2
        exact ⟨⟨_, rfl, R.out.1⟩, R.out.2⟩

end Go.Proofs.Ytflbeccfdbjbhaa
