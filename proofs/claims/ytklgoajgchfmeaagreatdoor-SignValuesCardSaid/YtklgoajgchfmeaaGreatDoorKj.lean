/- A part of the proof. -/
import Derived.Test.YtklgoajgchfmeaaGreatDoorDvC
import Derived.Test.YtklgoajgchfmeaaGreatDoorKi
import Derived.BigQuiet
import Derived.StillTail
set_option linter.unusedVariables false
set_option linter.unusedSimpArgs false
namespace Go.Proofs.YtklgoajgchfmeaaGreatDoor
open Go.RowKit
set_option maxRecDepth 100000
def VM (w : World) (cv pv : Value) (cols : List (List Val)) (ps : List Val) : Prop :=
  (∃ q c, cv = .slice q cols.length c ∧ cols.length ≤ c ∧ c ≤ 9223372036854775807 ∧ RowsA w 0 w.heap.size q cols) ∧ ∃ q c, pv = .slice q ps.length c ∧ ps.length ≤ c ∧ c ≤ 9223372036854775807 ∧ ValsA w 0 w.heap.size q ps
theorem VM.on {w w' : World} {cv pv : Value} {cols : List (List Val)} {ps : List Val} (h : VM w cv pv cols ps) (hb : Below w.heap.size w w') : VM w' cv pv cols ps := by
  obtain ⟨⟨q, c, h1, h2, h3, h4⟩, q', c', h5, h6, h7, h8⟩ := h
  refine ⟨⟨q, c, h1, h2, h3, ?_⟩, q', c', h5, h6, h7, ?_⟩
  · refine ArrA.imp (ArrA.wide (RowsA.same h4 (Same.of hb (Nat.le_refl _))) (Nat.le_refl _) hb.size) fun g o l _ _ hl => ?_
    obtain ⟨p, c, a, b, d, e⟩ := hl
    exact ⟨p, c, a, b, d, ArrA.wide e (Nat.le_refl _) hb.size⟩
  · exact ArrA.wide (ValsA.same h8 (Same.of hb (Nat.le_refl _))) (Nat.le_refl _) hb.size
def leafV (op rel col n : Int) (cols : List (List Val)) (ps : List Val) : Option Val :=
  if op = 2 then (cols[rel.toNat]?).bind fun l => l[col.toNat]? else if op = 3 then ps[(n - 1).toNat]? else some zeroVal
theorem dcol_ok {op : Int} {v : Val} {rel col n : Int} {s : ByteArray} {len : Nat} (h : headOk op v rel col n s len = true) (h2 : op = 2) : 0 ≤ col ∧ col ≤ 5 := by
  obtain ⟨_, _, _, h⟩ := head_parts h
  rcases h with ⟨h1, _⟩ | ⟨_, ⟨_, h1⟩ | ⟨h1, _⟩ | h1⟩
  · omega
  · exact ⟨h1.2.2.1, h1.2.2.2.1⟩
  · omega
  · omega
theorem n_ok {op : Int} {v : Val} {rel col n : Int} {s : ByteArray} {len : Nat} (h : headOk op v rel col n s len = true) (h3 : op = 3) : 1 ≤ n ∧ n ≤ 4 := by
  obtain ⟨_, _, _, h⟩ := head_parts h
  rcases h with ⟨h1, _⟩ | ⟨_, ⟨h1, _⟩ | ⟨_, h1⟩ | h1⟩
  · omega
  · omega
  · exact ⟨h1.2.2.1, h1.2.2.2⟩
  · omega
structure TV (W : World) (g : Nat) (k n : Int) (s : ByteArray) : Prop where
  lt : g < W.heap.size
  c0 : W.cell? ⟨g, 0, none⟩ = some (.int .i64 k)
  c1 : W.cell? ⟨g, 1, none⟩ = some (.int .i64 n)
  c2 : W.cell? ⟨g, 2, none⟩ = some (.string s)
  fz : ∀ o, W.frozen? ⟨g, o, none⟩ = false
theorem TV.on {W W' : World} {g : Nat} {k n : Int} {s : ByteArray} (h : TV W g k n s) (hb : Below W.heap.size W W') : TV W' g k n s :=
  ⟨Nat.lt_of_lt_of_le h.lt hb.size, (hb.cell (p := ⟨_, _, none⟩) h.lt).trans h.c0, (hb.cell (p := ⟨_, _, none⟩) h.lt).trans h.c1, (hb.cell (p := ⟨_, _, none⟩) h.lt).trans h.c2, fun o => (hb.frozen (p := ⟨_, o, none⟩) h.lt).trans (h.fz o)⟩
theorem TV.new_ (W : World) (k n : Int) (s : ByteArray) : TV (W.alloc (.cells #[.int .i64 k, .int .i64 n, .string s] 23)) W.heap.size k n s :=
  ⟨by simp, by simp [go_sem], by simp [go_sem], by simp [go_sem], fun o => by simp [go_sem]⟩
theorem TV.new (W : World) : TV (W.alloc (.cells #[.int .i64 0, .int .i64 0, .string ⟨#[]⟩] 23)) W.heap.size 0 0 ⟨#[]⟩ := TV.new_ W 0 0 ⟨#[]⟩
theorem TV.all {W : World} {g : Nat} {k n : Int} {s : ByteArray} (h : TV W g k n s) (k' n' : Int) (s' : ByteArray) : TV (((W.setCell ⟨g, 0, none⟩ (.int .i64 k')).setCell ⟨g, 1, none⟩ (.int .i64 n')).setCell ⟨g, 2, none⟩ (.string s')) g k' n' s' := by
  obtain ⟨lt, c0, c1, c2, fz⟩ := h
  exact ⟨by simp only [World.size_setCell]; exact lt, by simp [go_sem, c0], by simp [go_sem, c1], by simp [go_sem, c2], fun o => by simp only [World.frozen?_setCell]; exact fz o⟩
set_option maxHeartbeats 8000000 in
theorem source_val (op : Int) (v : Val) (rel col n : Int) (s : ByteArray) (q : Option Addr) (len c : Nat) (w : World) (cv pv : Value) (cols : List (List Val)) (ps : List Val) (hk : VM w cv pv cols ps) (hh : headOk op v rel col n s len = true) (h23 : op = 2 ∨ op = 3) :
    Calls Tryz.prog 15 #[.agg (exCells op v rel col n s q len c).toArray, cv, pv] w fun e w' => e = .returned (.tuple #[((leafV op rel col n cols ps).getD zeroVal).v, .bool (leafV op rel col n cols ps).isSome]) ∧ Below w.heap.size w w' := by
  have HK := Lib.hid hk
  have HR := Lib.hid (rel_ok hh)
  have HC := Lib.hid (dcol_ok hh)
  have HN := Lib.hid (n_ok hh)
  clear hh hk
  obtain ⟨⟨cq, cc, rfl, hcc, hcm, -⟩, pq, pc, rfl, hpc, hpm, -⟩ := id HK.out
  have E0 := EB.new w op v rel col n s q len c 26
  obtain ⟨W0, hW0⟩ : ∃ W, W = w.alloc (.cells (exCells op v rel col n s q len c).toArray 26) := ⟨_, rfl⟩
  rw [← hW0] at E0
  have T0 := TV.new W0
  obtain ⟨W1, hW1⟩ : ∃ W, W = W0.alloc (.cells #[.int .i64 0, .int .i64 0, .string ⟨#[]⟩] 23) := ⟨_, rfl⟩
  rw [← hW1] at T0
  have T1 := TV.new W1
  obtain ⟨W, hW⟩ : ∃ W, W = W1.alloc (.cells #[.int .i64 0, .int .i64 0, .string ⟨#[]⟩] 23) := ⟨_, rfl⟩
  rw [← hW] at T1
  have b1 : Below W0.heap.size W0 W1 := by rw [hW1]; (repeat (first | exact ext_refl _ | assumption | (refine ext_alloc ?_ _) | (refine ext_drewN ?_ _) | refine ext_drew ?_ | (refine ext_set (by first | (simp; done) | (simp; omega)) _ ?_) | (refine ext_trans ?_ (by assumption))))
  have b2 : Below W1.heap.size W1 W := by rw [hW]; (repeat (first | exact ext_refl _ | assumption | (refine ext_alloc ?_ _) | (refine ext_drewN ?_ _) | refine ext_drew ?_ | (refine ext_set (by first | (simp; done) | (simp; omega)) _ ?_) | (refine ext_trans ?_ (by assumption))))
  have b0 : Below w.heap.size w W0 := by rw [hW0]; (repeat (first | exact ext_refl _ | assumption | (refine ext_alloc ?_ _) | (refine ext_drewN ?_ _) | refine ext_drew ?_ | (refine ext_set (by first | (simp; done) | (simp; omega)) _ ?_) | (refine ext_trans ?_ (by assumption))))
  have z0' : W0.heap.size = w.heap.size + 1 := by rw [hW0]; simp
  have z1' : W1.heap.size = w.heap.size + 1 + 1 := by rw [hW1]; simp [z0']
  rw [z0'] at T0
  rw [z1'] at T1
  have EW := (E0.on b1).on b2
  have bW : Below w.heap.size w W := (b0.trans (b1.mono b0.size)).trans (b2.mono (by omega))
  obtain ⟨g, hg⟩ : ∃ g, g = w.heap.size := ⟨_, rfl⟩
  rw [← hg] at EW T0 T1
  obtain ⟨h, hh⟩ : ∃ h, h = g + 1 := ⟨_, rfl⟩
  rw [← hh] at T0 T1
  have HGh := Lib.hid (show w.heap.size ≤ h by omega)
  have HW := Lib.hid (And.intro EW (And.intro (T0.on b2) (And.intro T1 (And.intro (HK.out.on bW) bW))))
  have HWW := Lib.hid (show W = ((w.alloc (.cells (exCells op v rel col n s q len c).toArray 26)).alloc (.cells #[.int .i64 0, .int .i64 0, .string ⟨#[]⟩] 23)).alloc (.cells #[.int .i64 0, .int .i64 0, .string ⟨#[]⟩] 23) by rw [hW, hW1, hW0])
  have HG := Lib.hid hg
  have HH := Lib.hid hh
  clear E0 T0 T1 b0 b1 b2 bW z0' z1' hW hW1 hW0 HK EW hg hh
  go_enter Tryz.func15, Tryz.ntmps15
  go_upto_region 2 with fail
  rw [← HWW.out, ← HG.out, ← HH.out]
  clear HWW
  obtain ⟨lt, c0, c1, c2, c3, c4, c5, c6, c7, c8⟩ := HW.out.1
  obtain ⟨zl, z0, z1, z2, zf⟩ := HW.out.2.1
  obtain ⟨ol, o0, o1, o2, -⟩ := HW.out.2.2.1
  rcases h23 with h2 | h3
  · have q2 : (op == 2) = true := by rw [beq_iff_eq]; exact h2
    obtain ⟨r, hr⟩ : ∃ r : Nat, rel = (r : Int) := ⟨rel.toNat, by have := (HR.out h2).1; omega⟩
    obtain ⟨m, hm⟩ : ∃ m : Nat, col = (m : Int) := ⟨col.toNat, by have := (HC.out h2).1; omega⟩
    subst hr hm
    have HQ0 := Lib.hid (show leafV op (r : Int) (m : Int) n cols ps = (cols[r]?).bind fun l => l[m]? by unfold leafV; rw [if_pos h2, Int.toNat_natCast, Int.toNat_natCast])
    clear h2 HR HC HN
    go_big_quiet (fail)
    obtain ⟨y, hy⟩ : ∃ y, y = wrap64 (n - 1) := ⟨_, rfl⟩
    rw [← hy]
    clear hy
    obtain ⟨W3, hW3⟩ : ∃ X : World, X = W.drewN nq := ⟨_, rfl⟩
    rw [← hW3]
    have bD : Below W.heap.size W W3 := by rw [hW3]; (repeat (first | exact ext_refl _ | assumption | (refine ext_alloc ?_ _) | (refine ext_drewN ?_ _) | refine ext_drew ?_ | (refine ext_set (by first | (simp; done) | (simp; omega)) _ ?_) | (refine ext_trans ?_ (by assumption))))
    have EW3 := HW.out.1.on bD
    have HW3 := Lib.hid (And.intro EW3 (And.intro (HW.out.2.1.on bD) (And.intro (HW.out.2.2.1.on bD) (And.intro (HW.out.2.2.2.1.on bD) (HW.out.2.2.2.2.trans (bD.mono HW.out.2.2.2.2.size))))))
    clear lt c0 c1 c2 c3 c4 c5 c6 c7 c8 z0 z1 z2 zf zl o0 o1 o2 ol bD hW3
    obtain ⟨lt, c0, c1, c2, c3, c4, c5, c6, c7, c8⟩ := EW3
    obtain ⟨zl, z0, z1, z2, zf⟩ := HW3.out.2.1
    obtain ⟨ol, o0, o1, o2, -⟩ := HW3.out.2.2.1
    rcases Nat.lt_or_ge r cols.length with hlt | hge
    · have d0 : ¬ (r : Int) ≥ (cols.length : Int) := by omega
      obtain ⟨⟨_, _, hsl, _, _, hP⟩, -⟩ := HW3.out.2.2.2.1
      obtain ⟨rfl, -, rfl⟩ : cq = _ ∧ True ∧ cc = _ := by injection hsl with h1 _ h3; exact ⟨h1, trivial, h3⟩
      clear hsl
      obtain ⟨gp, offp, hq, _, hgp, hcell⟩ := ArrA.at_ hP hlt
      subst hq
      obtain ⟨lq, lc, hcell, hlc, hlm, hL⟩ := hcell
      rw [Nat.mul_one] at hcell
      obtain ⟨ll, hll⟩ : ∃ k, k = cols[r] := ⟨_, rfl⟩
      have HQ1 := Lib.hid (HQ0.out.trans (show ((cols[r]?).bind fun l => l[m]?) = ll[m]? by rw [hll, List.getElem?_eq_getElem hlt]; rfl))
      rw [← hll] at hcell hL hlc
      clear hll hP HQ0
      rcases Nat.lt_or_ge m ll.length with hlt2 | hge2
      · have d1 : ¬ (m : Int) ≥ (ll.length : Int) := by omega
        obtain ⟨gl, offl, hq, _, hgl, hc2, hc3, hc4⟩ := ArrA.at_ hL hlt2
        subst hq
        obtain ⟨k, hk⟩ : ∃ k, k = ll[m] := ⟨_, rfl⟩
        have HQ := Lib.hid (HQ1.out.trans (show ll[m]? = some k by rw [hk, List.getElem?_eq_getElem hlt2]))
        rw [← hk] at hc2 hc3 hc4
        clear hk hL HQ1
        go_wp2_with fail
        go_big_quiet (fail)
        have gc2 := fun (W4 : World) (bD : Below W3.heap.size W3 W4) => And.intro ((bD.cell (p := ⟨_, _, none⟩) hgl).trans hc2) (And.intro ((bD.cell (p := ⟨_, _, none⟩) hgl).trans hc3) (And.intro ((bD.cell (p := ⟨_, _, none⟩) hgl).trans hc4) (Nat.lt_of_lt_of_le hgl bD.size)))
        have HG2 := Lib.hid gc2
        clear gc2 hc2 hc3 hc4 hgl hcell hgp
        obtain ⟨W4, hW4⟩ : ∃ X : World, X = W3.drewN nq := ⟨_, rfl⟩
        rw [← hW4]
        have bD : Below W3.heap.size W3 W4 := by rw [hW4]; (repeat (first | exact ext_refl _ | assumption | (refine ext_alloc ?_ _) | (refine ext_drewN ?_ _) | refine ext_drew ?_ | (refine ext_set (by first | (simp; done) | (simp; omega)) _ ?_) | (refine ext_trans ?_ (by assumption))))
        have EW4 := HW3.out.1.on bD
        have HW4 := Lib.hid (And.intro EW4 (And.intro (HW3.out.2.1.on bD) (And.intro (HW3.out.2.2.1.on bD) (And.intro (HW3.out.2.2.2.1.on bD) (HW3.out.2.2.2.2.trans (bD.mono HW3.out.2.2.2.2.size))))))
        have hc := HG2.out _ bD
        clear lt c0 c1 c2 c3 c4 c5 c6 c7 c8 z0 z1 z2 zf zl o0 o1 o2 ol bD hW4
        obtain ⟨lt, c0, c1, c2, c3, c4, c5, c6, c7, c8⟩ := EW4
        obtain ⟨zl, z0, z1, z2, zf⟩ := HW4.out.2.1
        obtain ⟨ol, o0, o1, o2, -⟩ := HW4.out.2.2.1
        obtain ⟨hc2, hc3, hc4, hgl⟩ := hc
        have TT := Lib.hid HW4.out.2.1
        have HBn := Lib.hid HW4.out.2.2.2.2
        obtain ⟨Wn, hWn⟩ : ∃ W, W = W4 := ⟨_, rfl⟩
        subst hWn
        have HT := Lib.hid (TT.out.all (k.k) (k.n) (k.s))
        have HO := Lib.hid (((ext_set (p := ⟨h, 0, none⟩) HGh.out (.int .i64 k.k) HBn.out) |> ext_set (p := ⟨h, 1, none⟩) HGh.out (.int .i64 k.n)) |> ext_set (p := ⟨h, 2, none⟩) HGh.out (.string k.s))
        go_wp2_with fail
        obtain ⟨Y, hY⟩ : ∃ Y, Y = ((Wn.setCell ⟨h, 0, none⟩ (.int .i64 k.k)).setCell ⟨h, 1, none⟩ (.int .i64 k.n)).setCell ⟨h, 2, none⟩ (.string k.s) := ⟨_, rfl⟩
        rw [← hY] at HT HO
        rw [← hY]
        obtain ⟨-, y0, y1, y2, -⟩ := HT.out
        refine bodyPost_ret (v := .tuple #[.agg #[.int .i64 k.k, .int .i64 k.n, .string k.s], .bool true]) (by simp [results, Tryz.results15, go_sem, y0, y1, y2]) rfl ⟨by rw [HQ.out]; rfl, HO.out⟩
      · have d1 : (m : Int) ≥ (ll.length : Int) := by omega
        have HQ := Lib.hid (HQ1.out.trans (show ll[m]? = none from List.getElem?_eq_none hge2))
        clear hge2 hL HQ1
        go_wp2_with fail
        go_big_quiet (fail)
        clear hcell hgp
        obtain ⟨W4, hW4⟩ : ∃ X : World, X = W3.drewN nq := ⟨_, rfl⟩
        rw [← hW4]
        have bD : Below W3.heap.size W3 W4 := by rw [hW4]; (repeat (first | exact ext_refl _ | assumption | (refine ext_alloc ?_ _) | (refine ext_drewN ?_ _) | refine ext_drew ?_ | (refine ext_set (by first | (simp; done) | (simp; omega)) _ ?_) | (refine ext_trans ?_ (by assumption))))
        have EW4 := HW3.out.1.on bD
        have HW4 := Lib.hid (And.intro EW4 (And.intro (HW3.out.2.1.on bD) (And.intro (HW3.out.2.2.1.on bD) (And.intro (HW3.out.2.2.2.1.on bD) (HW3.out.2.2.2.2.trans (bD.mono HW3.out.2.2.2.2.size))))))
        clear lt c0 c1 c2 c3 c4 c5 c6 c7 c8 z0 z1 z2 zf zl o0 o1 o2 ol bD hW4
        obtain ⟨lt, c0, c1, c2, c3, c4, c5, c6, c7, c8⟩ := EW4
        obtain ⟨zl, z0, z1, z2, zf⟩ := HW4.out.2.1
        obtain ⟨ol, o0, o1, o2, -⟩ := HW4.out.2.2.1
        have TT := Lib.hid HW4.out.2.1
        have HBn := Lib.hid HW4.out.2.2.2.2
        obtain ⟨Wn, hWn⟩ : ∃ W, W = W4 := ⟨_, rfl⟩
        subst hWn
        have HT := Lib.hid (TT.out.all 0 0 ⟨#[]⟩)
        have HO := Lib.hid (((ext_set (p := ⟨h, 0, none⟩) HGh.out (.int .i64 0) HBn.out) |> ext_set (p := ⟨h, 1, none⟩) HGh.out (.int .i64 0)) |> ext_set (p := ⟨h, 2, none⟩) HGh.out (.string ⟨#[]⟩))
        go_wp2_with fail
        obtain ⟨Y, hY⟩ : ∃ Y, Y = ((Wn.setCell ⟨h, 0, none⟩ (.int .i64 0)).setCell ⟨h, 1, none⟩ (.int .i64 0)).setCell ⟨h, 2, none⟩ (.string ⟨#[]⟩) := ⟨_, rfl⟩
        rw [← hY] at HT HO
        rw [← hY]
        obtain ⟨-, y0, y1, y2, -⟩ := HT.out
        refine bodyPost_ret (v := .tuple #[.agg #[.int .i64 0, .int .i64 0, .string ⟨#[]⟩], .bool false]) (by simp [results, Tryz.results15, go_sem, y0, y1, y2]) rfl ⟨by rw [HQ.out]; rfl, HO.out⟩
    · have d0 : (r : Int) ≥ (cols.length : Int) := by omega
      have HQ := Lib.hid (HQ0.out.trans (show ((cols[r]?).bind fun l => l[m]?) = none by rw [List.getElem?_eq_none hge]; rfl))
      clear hge HQ0
      have TT := Lib.hid HW3.out.2.1
      have HBn := Lib.hid HW3.out.2.2.2.2
      obtain ⟨Wn, hWn⟩ : ∃ W, W = W3 := ⟨_, rfl⟩
      subst hWn
      have HT := Lib.hid (TT.out.all 0 0 ⟨#[]⟩)
      have HO := Lib.hid (((ext_set (p := ⟨h, 0, none⟩) HGh.out (.int .i64 0) HBn.out) |> ext_set (p := ⟨h, 1, none⟩) HGh.out (.int .i64 0)) |> ext_set (p := ⟨h, 2, none⟩) HGh.out (.string ⟨#[]⟩))
      go_wp2_with fail
      obtain ⟨Y, hY⟩ : ∃ Y, Y = ((Wn.setCell ⟨h, 0, none⟩ (.int .i64 0)).setCell ⟨h, 1, none⟩ (.int .i64 0)).setCell ⟨h, 2, none⟩ (.string ⟨#[]⟩) := ⟨_, rfl⟩
      rw [← hY] at HT HO
      rw [← hY]
      obtain ⟨-, y0, y1, y2, -⟩ := HT.out
      refine bodyPost_ret (v := .tuple #[.agg #[.int .i64 0, .int .i64 0, .string ⟨#[]⟩], .bool false]) (by simp [results, Tryz.results15, go_sem, y0, y1, y2]) rfl ⟨by rw [HQ.out]; rfl, HO.out⟩
  · have q2 : (op == 2) = false := by rw [beq_eq_false_iff_ne]; omega
    obtain ⟨m, hm⟩ : ∃ m : Nat, n = (m : Int) + 1 := ⟨(n - 1).toNat, by have := (HN.out h3).1; omega⟩
    subst hm
    have HQ0 := Lib.hid (show leafV op rel col ((m : Int) + 1) cols ps = ps[m]? by unfold leafV; rw [if_neg (by omega), if_pos h3, show ((m : Int) + 1 - 1).toNat = m by omega])
    have hm4 := (HN.out h3).2
    have hw : wrap64 ((m : Int) + 1 - 1) = (m : Int) := by unfold wrap64; omega
    have hw2 : IntKind.i64.wrap ((m : Int) + 1 - 1) = (m : Int) := (IntKind.wrap_i64 _).trans (by omega)
    have hw3 : wrap64 (m : Int) = (m : Int) := by unfold wrap64; omega
    clear h3 HR HC HN hm4
    go_big_quiet (fail)
    obtain ⟨W3, hW3⟩ : ∃ X : World, X = W.drewN nq := ⟨_, rfl⟩
    rw [← hW3]
    have bD : Below W.heap.size W W3 := by rw [hW3]; (repeat (first | exact ext_refl _ | assumption | (refine ext_alloc ?_ _) | (refine ext_drewN ?_ _) | refine ext_drew ?_ | (refine ext_set (by first | (simp; done) | (simp; omega)) _ ?_) | (refine ext_trans ?_ (by assumption))))
    have EW3 := HW.out.1.on bD
    have HW3 := Lib.hid (And.intro EW3 (And.intro (HW.out.2.1.on bD) (And.intro (HW.out.2.2.1.on bD) (And.intro (HW.out.2.2.2.1.on bD) (HW.out.2.2.2.2.trans (bD.mono HW.out.2.2.2.2.size))))))
    clear lt c0 c1 c2 c3 c4 c5 c6 c7 c8 z0 z1 z2 zf zl o0 o1 o2 ol bD hW3
    obtain ⟨lt, c0, c1, c2, c3, c4, c5, c6, c7, c8⟩ := EW3
    obtain ⟨zl, z0, z1, z2, zf⟩ := HW3.out.2.1
    obtain ⟨ol, o0, o1, o2, -⟩ := HW3.out.2.2.1
    rcases Nat.lt_or_ge m ps.length with hlt2 | hge2
    · have d1 : ¬ (m : Int) ≥ (ps.length : Int) := by omega
      obtain ⟨-, _, _, hsl, _, _, hL⟩ := HW3.out.2.2.2.1
      obtain ⟨rfl, -, rfl⟩ : pq = _ ∧ True ∧ pc = _ := by injection hsl with h1 _ h3; exact ⟨h1, trivial, h3⟩
      clear hsl
      obtain ⟨gl, offl, hq, _, hgl, hc2, hc3, hc4⟩ := ArrA.at_ hL hlt2
      subst hq
      obtain ⟨k, hk⟩ : ∃ k, k = ps[m] := ⟨_, rfl⟩
      have HQ := Lib.hid (HQ0.out.trans (show ps[m]? = some k by rw [hk, List.getElem?_eq_getElem hlt2]))
      rw [← hk] at hc2 hc3 hc4
      clear hk hL HQ0
      have TT := Lib.hid HW3.out.2.1
      have HBn := Lib.hid HW3.out.2.2.2.2
      obtain ⟨Wn, hWn⟩ : ∃ W, W = W3 := ⟨_, rfl⟩
      subst hWn
      have HT := Lib.hid (TT.out.all (k.k) (k.n) (k.s))
      have HO := Lib.hid (((ext_set (p := ⟨h, 0, none⟩) HGh.out (.int .i64 k.k) HBn.out) |> ext_set (p := ⟨h, 1, none⟩) HGh.out (.int .i64 k.n)) |> ext_set (p := ⟨h, 2, none⟩) HGh.out (.string k.s))
      go_wp2_with fail
      obtain ⟨Y, hY⟩ : ∃ Y, Y = ((Wn.setCell ⟨h, 0, none⟩ (.int .i64 k.k)).setCell ⟨h, 1, none⟩ (.int .i64 k.n)).setCell ⟨h, 2, none⟩ (.string k.s) := ⟨_, rfl⟩
      rw [← hY] at HT HO
      rw [← hY]
      obtain ⟨-, y0, y1, y2, -⟩ := HT.out
      refine bodyPost_ret (v := .tuple #[.agg #[.int .i64 k.k, .int .i64 k.n, .string k.s], .bool true]) (by simp [results, Tryz.results15, go_sem, y0, y1, y2]) rfl ⟨by rw [HQ.out]; rfl, HO.out⟩
    · have d1 : (m : Int) ≥ (ps.length : Int) := by omega
      have HQ := Lib.hid (HQ0.out.trans (show ps[m]? = none from List.getElem?_eq_none hge2))
      clear hge2 HQ0
      have TT := Lib.hid HW3.out.2.1
      have HBn := Lib.hid HW3.out.2.2.2.2
      obtain ⟨Wn, hWn⟩ : ∃ W, W = W3 := ⟨_, rfl⟩
      subst hWn
      have HT := Lib.hid (TT.out.all 0 0 ⟨#[]⟩)
      have HO := Lib.hid (((ext_set (p := ⟨h, 0, none⟩) HGh.out (.int .i64 0) HBn.out) |> ext_set (p := ⟨h, 1, none⟩) HGh.out (.int .i64 0)) |> ext_set (p := ⟨h, 2, none⟩) HGh.out (.string ⟨#[]⟩))
      go_wp2_with fail
      obtain ⟨Y, hY⟩ : ∃ Y, Y = ((Wn.setCell ⟨h, 0, none⟩ (.int .i64 0)).setCell ⟨h, 1, none⟩ (.int .i64 0)).setCell ⟨h, 2, none⟩ (.string ⟨#[]⟩) := ⟨_, rfl⟩
      rw [← hY] at HT HO
      rw [← hY]
      obtain ⟨-, y0, y1, y2, -⟩ := HT.out
      refine bodyPost_ret (v := .tuple #[.agg #[.int .i64 0, .int .i64 0, .string ⟨#[]⟩], .bool false]) (by simp [results, Tryz.results15, go_sem, y0, y1, y2]) rfl ⟨by rw [HQ.out]; rfl, HO.out⟩
open Go.RowKit
section
variable {P : Program} {ops : Array Oper} {md : Region.Mode} {C : World → Prop}
def anyHead (P : Program) (md : Region.Mode) (ops : Array Oper) (C : World → Prop) (n : Nat) (L : Array Bool → Act → Prop) : Nat → Array Bool → Act → Prop
  | 0, listed, a => L listed a
  | f + 1, listed, a => Region.ready md ops listed ≠ [] ∧ ∀ i ∈ Region.ready md ops listed, i < n ∧ qOp P ops C i (anyHead P md ops C n L f (listed.setIfInBounds i true)) a
theorem anyHead_goes {n g : Nat} {L : Array Bool → Act → Prop} {Q' : Exit → Act → World → Prop} (hL : ∀ listed a w, C w → L listed a → wpAny P md ops Q' g listed a w) :
    ∀ (f : Nat) (listed : Array Bool) (a : Act) (w : World), C w → anyHead P md ops C n L f listed a → wpAny P md ops Q' (f + g) listed a w
  | 0, listed, a, w, hw, h => by rw [Nat.zero_add]; exact hL _ _ _ hw h
  | f + 1, listed, a, w, hw, h => by
    rw [show f + 1 + g = (f + g) + 1 by omega]
    exact ⟨fun h0 => absurd h0 h.1, fun i hi => wpOp_of_qOp hw (fun a' w' hw' h' => anyHead_goes hL f _ a' w' hw' h') (h.2 i hi).2⟩
theorem anyHead_first {n i : Nat} {oi : Oper} {v : Value} {L : Array Bool → Act → Prop} (hi : ops[i]? = some oi) (hsel : ∀ (j : Nat) (o : Oper) cs b, ops[j]? = some o → o.op ≠ .select cs b)
    (hs : Region.sinkB md ops n = true) (hc : Region.chainB md ops n = true) (hn : n < ops.size) (hin : i < n) (hdone : ∀ listed a, L listed a → ∀ j ∈ Region.ready md ops listed, n ≤ j) :
    ∀ (f : Nat) (listed : Array Bool) (a : Act), HeadInv md ops n listed →
      (∀ j oj, ops[j]? = some oj → j ≠ i → listed.getD j true = false → (∀ e ∈ oj.after, Region.binds md e = true → e.on ≠ i) → oi.apart ops oj = true) →
      i ∈ Region.ready md ops listed → YieldsIn P ops C oi v a →
      anyHead P md ops C n L f (listed.setIfInBounds i true) (a.put oi.dst v) → anyHead P md ops C n L (f + 1) listed a := by
  intro f
  induction f with
  | zero =>
    intro listed a inv _ hr hy H
    refine ⟨fun h => (by rw [h] at hr; cases hr), fun j hj => ?_⟩
    have hjn : j < n := Nat.lt_of_not_le fun h => absurd hj (tail_waits hs hc hn inv _ i rfl hin (mem_ready.1 hr).1 j h)
    refine ⟨hjn, ?_⟩
    by_cases hji : j = i
    · subst hji; exact hy.qOp hi H
    · have := hdone _ _ H j (ready_mono hj hji)
      omega
  | succ f ih =>
    intro listed a inv hfree hr hy H
    refine ⟨fun h => (by rw [h] at hr; cases hr), fun j hj => ?_⟩
    have hjn : j < n := Nat.lt_of_not_le fun h => absurd hj (tail_waits hs hc hn inv _ i rfl hin (mem_ready.1 hr).1 j h)
    refine ⟨hjn, ?_⟩
    by_cases hji : j = i
    · subst hji; exact hy.qOp hi H
    · obtain ⟨hjun, oj, hoj, hall⟩ := mem_ready.1 hj
      have hnot : ∀ e ∈ oj.after, Region.binds md e = true → e.on ≠ i := fun e he hb heq => by
        have h1 := hall e he hb
        rw [heq, getD_both (mem_ready.1 hr).1] at h1
        cases h1
      refine qOp_mono (fun a' h3 => ih (listed.setIfInBounds j true) a' (inv.set hj hjn) (fun k ok hk hki hun hno => ?_) (ready_mono hr (Ne.symm hji)) h3.1 ?_)
        (qOp_put hoj (hfree j oj hoj hji hjun hnot) (fun cs b => hsel i oi cs b hi) (fun cs b => hsel j oj cs b hoj) hy (H.2 j (ready_mono hj hji)).2)
      · refine hfree k ok hk hki ?_ hno
        by_cases hjk : j = k
        · subst hjk; exact hjun
        · rwa [getD_set_ne true hjk] at hun
      · rw [Array.setIfInBounds_comm _ _ hji]
        exact h3.2
theorem anyHead_lex {n g : Nat} {Lq : Act → Prop} (hsel : Region.noSelect ops = true) (hs : Region.sinkB md ops n = true) (hc : Region.chainB md ops n = true) (hn : n < ops.size) :
    ∀ (l : List Oper) (k : Nat) (listed : Array Bool) (a : Act), (∀ j, j < l.length → l[j]? = ops[k + j]?) → k + l.length = n → HeadInv md ops n listed →
    Region.lexHead md ops g l.length k listed = true → wpQuiet P ops C Lq l a →
    anyHead P md ops C n (fun listed' a' => Region.seqB md ops g n listed' = true ∧ Lq a') l.length listed a
  | [], k, listed, a, _, hk, _, hB, h => by
    obtain rfl : k = n := by simpa using hk
    exact ⟨by simpa [Region.lexHead] using hB, h⟩
  | o :: l, k, listed, a, hl, hk, inv, hB, h => by
    have h0 : ops[k]? = some o := by simpa using (hl 0 (by simp)).symm
    simp only [List.length_cons, Region.lexHead, Bool.and_eq_true] at hB
    obtain ⟨⟨hr, hf⟩, hB'⟩ := hB
    have hkn : k < n := by simp only [List.length_cons] at hk; omega
    have hr' : k ∈ Region.ready md ops listed := by simpa using hr
    obtain ⟨v, hy, hK⟩ := yieldsIn_of_qOp h0 (show qOp P ops C k (wpQuiet P ops C Lq l) a by unfold qOp; simp only [h0]; exact h)
    exact anyHead_first h0 (Region.noSelect_spec hsel) hs hc hn hkn (fun listed' a' hL => seqB_ready hL.1) l.length listed a inv (Region.free_spec h0 hf) hr' hy
      (anyHead_lex hsel hs hc hn l (k + 1) _ _ (fun j hj => by have := hl (j + 1) (by simp; omega); simpa [Nat.add_assoc, Nat.add_comm 1 j] using this) (by simp only [List.length_cons] at hk; omega) (inv.set hr' hkn) hB' hK)
theorem wp_region_quiet_tail {id : Nat} {Q : Exit → Act → World → Prop} {a : Act} {w : World} {l : List Oper} (n : Nat) (hm : P.follows .mixedOrders = true) (hB : Region.lexTailB .any l.toArray n = true) (hC : C { w with drawn := w.drawn + 1 })
    (h : wpQuiet P l.toArray C (fun a' => ∀ w', C w' → wpList P l.toArray Q (l.drop n) a' w') (l.take n) a) : (Code.region id l.toArray true).wp P Q a w := by
  simp only [Region.lexTailB, Bool.and_eq_true, decide_eq_true_eq] at hB
  obtain ⟨⟨⟨⟨hsel, hn⟩, hs⟩, hc⟩, hlex⟩ := hB
  have hn' : n < l.length := by simpa using hn
  have htl : (l.take n).length = n := by simp; omega
  have hdl : (l.drop n).length = l.toArray.size - n := by simp
  have inv0 : HeadInv .any l.toArray n (Array.replicate l.toArray.size false) :=
    ⟨by simp, fun j oj _ hl => (by rw [getD_replicate_false] at hl; cases hl), fun t _ ht => getD_in (by simpa using ht) (getD_replicate_false _ _)⟩
  have H := anyHead_lex (md := .any) (C := C) (g := l.toArray.size - n) hsel hs hc hn (l.take n) 0 _ a (fun j hj => by
    have hj' : j < n := by rw [htl] at hj; exact hj
    simp [hj']) (by simpa using htl) inv0 (by rw [htl]; exact hlex) h
  have G := anyHead_goes (Q' := Q) (g := l.toArray.size - n) (fun listed a' w' hw' hL => by
    have := wpAny_of_seq (md := .any) (Q' := Q) (l.drop n) n listed a' w' (fun j => by simp [List.getElem?_drop]) (by rw [hdl]; exact hL.1) (hL.2 w' hw')
    rwa [hdl] at this) _ _ _ _ hC H
  rw [htl, show n + (l.toArray.size - n) = l.toArray.size by omega] at G
  exact wp_region_any hm G
end
theorem wp_region_after_tail {P : Program} {id : Nat} {Q : Exit → Act → World → Prop} {a : Act} {w : World} {l : List Oper} (n : Nat) (hm : P.follows .mixedOrders = true) (hB : Region.lexTailB .any l.toArray n = true)
    (h : wpQuiet P l.toArray (fun w' => ∃ x : After w, w' = x.W) (fun a' => ∀ w', (∃ x : After w, w' = x.W) → wpList P l.toArray Q (l.drop n) a' w') (l.take n) a) : (Code.region id l.toArray true).wp P Q a w :=
  wp_region_quiet_tail (C := fun w' => ∃ x : After w, w' = x.W) n hm hB ⟨⟨w.drew, (Below.refl _ _).drew⟩, rfl⟩ h
end Go.Proofs.YtklgoajgchfmeaaGreatDoor
