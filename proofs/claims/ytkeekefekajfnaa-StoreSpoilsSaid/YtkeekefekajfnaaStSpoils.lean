/- A database with one thing amiss is none: a name that two tables have, or that is a word; a row too short; a value of another kind; a column twice; a column of no kind: whatever the tables. Conditions: none. -/
import Derived.Test.YtkeekefekajfnaaStE
import Derived.Test.YtkeekefekajfnaaStO
import Derived.Test.YtkeekefekajfnaaStSp
import Derived.Test.YtkeekefekajfnaaSgI
import Derived.Test.YtkeekefekajfnaaSgJ
import Derived.Deep.AppendLies
import Derived.Deep.DeepCutAuto
import Derived.Deep.RegionLaw
import Derived.Deep.CutBlock
namespace Go.Proofs.Ytkeekefekajfnaa
open Go.ChangeShapes Go.WideShapes Go.ChangeAt Go.RowKit Go.Joins
set_option maxRecDepth 100000

theorem tmod_pos {z n : Int} (h : 0 ≤ z) (hn : 0 < n) : ∃ i : Nat, z.tmod n = (i : Int) ∧ (i : Int) < n := by
  have h1 := Int.emod_nonneg z (show n ≠ 0 by omega)
  refine ⟨(z % n).toNat, ?_, ?_⟩
  · rw [Int.tmod_eq_emod_of_nonneg h, Int.toNat_of_nonneg h1]
  · rw [Int.toNat_of_nonneg h1]
    exact Int.emod_lt_of_pos z hn

theorem OwnF.set_other {α : Type} {cells : α → List Value} {sz : Nat} {w : World} {b g n c : Nat} {E : TypeId} {l : List α} {p : Addr} {u : Value} (h : OwnF w b E sz cells (.slice (some ⟨g, 0, none⟩) n c) l) (hne : g ≠ p.block) : OwnF (w.setCell p u) b E sz cells (.slice (some ⟨g, 0, none⟩) n c) l :=
  h.kept (Out.set (S := fun k => k = p.block) p u rfl) (fun k hk e => hne ((by simpa [Value.ownBlock] using e : g = k).trans hk))

theorem TabRaw.same {w w' : World} {lo hi : Nat} {r : RawTab} {t : Tab} (h : TabRaw w lo hi r t) (s : Same lo hi w w') : TabRaw w' lo hi r t := ⟨h.nm, h.nc, h.cols.same s, h.nr, h.rows.same s⟩
theorem rowC_wide {w : World} {lo hi lo' hi' g o : Nat} {l : List Val} (h : rowC w lo hi g o l) (h1 : lo' ≤ lo) (h2 : hi ≤ hi') : rowC w lo' hi' g o l := by
  obtain ⟨p, c, a, b, d, e⟩ := h
  exact ⟨p, c, a, b, d, e.wide h1 h2⟩
theorem RowsA.wide2 {w : World} {lo hi lo' hi' : Nat} {q : Option Addr} {l : List (List Val)} (h : RowsA w lo hi q l) (h1 : lo' ≤ lo) (h2 : hi ≤ hi') : RowsA w lo' hi' q l := ArrA.imp (ArrA.wide h h1 h2) fun _ _ _ _ _ h => rowC_wide h h1 h2
theorem TabRaw.wide {w : World} {lo hi lo' hi' : Nat} {r : RawTab} {t : Tab} (h : TabRaw w lo hi r t) (h1 : lo' ≤ lo) (h2 : hi ≤ hi') : TabRaw w lo' hi' r t := ⟨h.nm, h.nc, h.cols.wide h1 h2, h.nr, h.rows.wide2 h1 h2⟩

/-- What a table holds, whatever becomes of block g. -/
structure TabG (g : Nat) (W : World) (r : RawTab) (t : Tab) : Prop where
  raw : ∀ W', Out (fun k => k = g) W W' → TabRaw W' 0 W'.heap.size r t
theorem same_old {w W W' : World} {g : Nat} (hE : Below w.heap.size w W) (hg : w.heap.size ≤ g) (o : Out (fun k => k = g) W W') : Same 0 w.heap.size w W' :=
  ⟨fun k _ hk => (o.block k (by have := hE.size; omega) (by omega)).trans (hE.block k hk)⟩
theorem tabG_old {w W : World} {g : Nat} {r : RawTab} {t : Tab} (h : TabRaw w 0 w.heap.size r t) (hE : Below w.heap.size w W) (hg : w.heap.size ≤ g) : TabG g W r t :=
  ⟨fun W' o => (h.same (same_old hE hg o)).wide (Nat.le_refl _) (by have := hE.size; have := o.size; omega)⟩
/-- A row as it is held, and what it holds, whatever becomes of block g. -/
def RowG (g : Nat) (W : World) (r : Raw) (x : List Val) : Prop := r.2.1 = x.length ∧ x.length ≤ r.2.2 ∧ r.2.2 ≤ 9223372036854775807 ∧ ∀ W', Out (fun k => k = g) W W' → ValsA W' 0 W'.heap.size r.1 x
theorem tabG_new {W : World} {g b b' : Nat} {r : RawTab} {t : Tab} {KR : List Raw} (h1 : r.nm = t.nm ∧ t.nm.size ≤ 9223372036854775807) (hc : OwnF W b 39 2 colCell (.slice r.qc r.nc r.cc) t.cols) (hcn : ∀ x ∈ t.cols, x.nm.size ≤ 9223372036854775807)
    (hr : OwnF W b' 31 1 rawCell (.slice r.qr r.nr r.cr) KR) (hrl : KR.length = t.rows.length) (hv : ∀ (j : Nat) (r : Raw) (x : List Val), KR[j]? = some r → t.rows[j]? = some x → RowG g W r x) (hg : ∃ cur, W.heap[g]? = some (.cells cur 30 (0, 0))) : TabG g W r t := ⟨fun W' o => by
  have hS : ∀ k, k = g → ∃ cur, W.heap[k]? = some (.cells cur 30 (0, 0)) := fun k hk => by rw [hk]; exact hg
  obtain ⟨e1, c1⟩ := (hc.kept_ty o hS (by decide)).cols hcn
  obtain ⟨q', c', e, k1, k2, _, k4⟩ := (hr.kept_ty o hS (by decide)).arr rawCell_len
  simp only [Value.slice.injEq] at e
  obtain ⟨e0, e2, rfl⟩ := e
  refine ⟨h1, ⟨e1, c1.le, c1.le2⟩, c1.arr.wide (Nat.zero_le _) (Nat.le_refl _), ⟨by omega, by omega, k2⟩, fun i hi => ?_⟩
  rw [e0]
  obtain ⟨g', off, hq, g1, g2, hcell⟩ := k4 i (by omega)
  refine ⟨g', off, hq, Nat.zero_le _, g2, fun j x hx => ?_⟩
  obtain ⟨ra, hra⟩ : ∃ ra, KR[j]? = some ra := ⟨_, List.getElem?_eq_getElem (by have := (List.getElem?_eq_some_iff.1 hx).1; omega)⟩
  obtain ⟨v1, v2, v3, v4⟩ := hv j ra x hra hx
  exact ⟨ra.1, ra.2.2, by rw [← v1]; exact hcell j ra hra 0 _ rfl, v2, v3, v4 W' o⟩⟩
theorem rowG_old {w W : World} {g : Nat} {r : Raw} {x : List Val} (h1 : r.2.1 = x.length) (h2 : x.length ≤ r.2.2) (h3 : r.2.2 ≤ 9223372036854775807) (h : ValsA w 0 w.heap.size r.1 x) (hE : Below w.heap.size w W) (hg : w.heap.size ≤ g) : RowG g W r x :=
  ⟨h1, h2, h3, fun W' o => (h.same (same_old hE hg o)).wide (Nat.le_refl _) (by have := hE.size; have := o.size; omega)⟩

/-- The three cells of a table, written. -/
abbrev set3 (W : World) (g i : Nat) (r : RawTab) : World := ((W.setCell ⟨g, i * 3, none⟩ (.string r.nm)).setCell ⟨g, i * 3 + 1, none⟩ (.slice r.qc r.nc r.cc)).setCell ⟨g, i * 3 + 2, none⟩ (.slice r.qr r.nr r.cr)
/-- What stands when the table is about to be put into its place: a list that is no database. -/
structure EndP (w W : World) (i tb : Nat) (vm : Value) : Prop where
  at_ : ∃ (g cm : Nat) (r : RawTab) (M : List Tab), vm = .slice (some ⟨g, 0, none⟩) M.length cm ∧ M.length ≤ cm ∧ cm ≤ 9223372036854775807 ∧ i < M.length ∧
    W.heap[tb]? = some (.cells #[.string r.nm, .slice r.qc r.nc r.cc, .slice r.qr r.nr r.cr] 30 (0, 0)) ∧
    ((∃ u, W.cell? ⟨g, i * 3, none⟩ = some u) ∧ (∃ u, W.cell? ⟨g, i * 3 + 1, none⟩ = some u) ∧ ∃ u, W.cell? ⟨g, i * 3 + 2, none⟩ = some u) ∧ (∀ o, W.frozen? ⟨g, o, none⟩ = false) ∧
    (TabsA (set3 W g i r) 0 (set3 W g i r).heap.size (some ⟨g, 0, none⟩) M ∧ ¬ TabsP M ∧ Below w.heap.size w (set3 W g i r))
theorem EndP.of {w W : World} {i tb g c b : Nat} {K : List RawTab} {L : List Tab} {r : RawTab} {t : Tab} (hm : OwnF W b 30 3 tabCell (.slice (some ⟨g, 0, none⟩) K.length c) K) (hl : K.length = L.length) (hi : i < L.length)
    (hK : ∀ (j : Nat) (r : RawTab) (t : Tab), K[j]? = some r → L[j]? = some t → TabG g W r t) (hT : W.heap[tb]? = some (.cells #[.string r.nm, .slice r.qc r.nc r.cc, .slice r.qr r.nr r.cr] 30 (0, 0))) (ht : TabG g W r t) (hn : ¬ TabsP (L.set i t)) (hE : Below w.heap.size w W) (hb : w.heap.size ≤ b) :
    EndP w W i tb (.slice (some ⟨g, 0, none⟩) K.length c) := by
  obtain ⟨x, hx⟩ : ∃ x, K[i]? = some x := ⟨_, List.getElem?_eq_getElem (by omega)⟩
  have s1 := hm.setc (x' := ⟨r.nm, x.qc, x.nc, x.cc, x.qr, x.nr, x.cr⟩) (k := 0) (u := .string r.nm) tabCell_len hx (by omega) rfl
  have s2 := s1.setc (x := ⟨r.nm, x.qc, x.nc, x.cc, x.qr, x.nr, x.cr⟩) (x' := ⟨r.nm, r.qc, r.nc, r.cc, x.qr, x.nr, x.cr⟩) (j := i) (k := 1) (u := .slice r.qc r.nc r.cc) tabCell_len (by rw [List.getElem?_set_self (by omega)]) (by omega) rfl
  have s3 := s2.setc (x := ⟨r.nm, r.qc, r.nc, r.cc, x.qr, x.nr, x.cr⟩) (x' := r) (j := i) (k := 2) (u := .slice r.qr r.nr r.cr) tabCell_len (by rw [List.getElem?_set_self (by rw [List.length_set]; omega)]) (by omega) rfl
  rw [List.set_set, List.set_set] at s3
  have hgb : b ≤ g := (hm.lt g rfl).1
  have o3 : Out (fun k => k = g) W (set3 W g i r) := ((Out.set (S := fun k => k = g) ⟨g, i * 3, none⟩ _ rfl).trans (Out.set (S := fun k => k = g) ⟨g, i * 3 + 1, none⟩ _ rfl)).trans (Out.set (S := fun k => k = g) ⟨g, i * 3 + 2, none⟩ _ rfl)
  have s3 : OwnF (set3 W g i r) b 30 3 tabCell (.slice (some ⟨g, 0, none⟩) K.length c) (K.set i r) := s3
  obtain ⟨q', c', e, k1, k2, _, k4⟩ := s3.arr tabCell_len
  simp only [Value.slice.injEq] at e
  obtain ⟨rfl, -, rfl⟩ := e
  rw [List.length_set] at k1
  have hml : (L.set i t).length = K.length := by rw [List.length_set, hl]
  refine ⟨g, c, r, L.set i t, by rw [hml], by omega, k2, by omega, hT, ⟨⟨_, (hm.cellAt tabCell_len hx (k := 0) rfl).1⟩, ⟨_, (hm.cellAt tabCell_len hx (k := 1) rfl).1⟩, ⟨_, (hm.cellAt tabCell_len hx (k := 2) rfl).1⟩⟩, (hm.cellAt tabCell_len hx (k := 0) rfl).2, fun n hn => ?_, hn, hE.trans (o3.below hE.size (fun k hk => by omega))⟩
  obtain ⟨g', off, hq, g1, g2, hc⟩ := k4 n (by rw [List.length_set]; omega)
  refine ⟨g', off, hq, Nat.zero_le _, g2, fun j y hy => ?_⟩
  by_cases hj : j = i
  · subst hj
    rw [List.getElem?_set_self hi] at hy
    cases hy
    have R := ht.raw _ o3
    have cc := hc j r (by rw [List.getElem?_set_self (by omega)])
    refine ⟨⟨?_, R.nm.2⟩, ⟨r.qc, r.cc, ?_, R.nc.2.1, R.nc.2.2, R.cols⟩, r.qr, r.cr, ?_, R.nr.2.1, R.nr.2.2, R.rows⟩
    · rw [← R.nm.1]; exact cc 0 _ rfl
    · rw [← R.nc.1]; exact cc 1 _ rfl
    · rw [← R.nr.1]; exact cc 2 _ rfl
  · rw [List.getElem?_set_ne (Ne.symm hj)] at hy
    obtain ⟨ry, hry⟩ : ∃ ry, K[j]? = some ry := ⟨_, List.getElem?_eq_getElem (by have := (List.getElem?_eq_some_iff.1 hy).1; omega)⟩
    have R := (hK j ry y hry hy).raw _ o3
    have cc := hc j ry (by rw [List.getElem?_set_ne (Ne.symm hj)]; exact hry)
    refine ⟨⟨?_, R.nm.2⟩, ⟨ry.qc, ry.cc, ?_, R.nc.2.1, R.nc.2.2, R.cols⟩, ry.qr, ry.cr, ?_, R.nr.2.1, R.nr.2.2, R.rows⟩
    · rw [← R.nm.1]; exact cc 0 _ rfl
    · rw [← R.nc.1]; exact cc 1 _ rfl
    · rw [← R.nr.1]; exact cc 2 _ rfl

/-- A block of three cells, one of them written. -/
theorem tab_set {W : World} {tb k : Nat} {cs : Array Value} {u : Value} (h : W.heap[tb]? = some (.cells cs 30 (0, 0))) : (W.setCell ⟨tb, k, none⟩ u).heap[tb]? = some (.cells (cs.setIfInBounds k u) 30 (0, 0)) := by
  rw [setCell_eq_setRow W tb k _ _ _ _ h]
  exact setRow_heap W tb _ _ _ _ h
theorem heap_set_other {W : World} {k : Nat} {p : Addr} {u : Value} {o : Obj} (h : W.heap[k]? = some o) (hne : k ≠ p.block) : (W.setCell p u).heap[k]? = some o := by
  have hl : k < W.heap.size := by
    rcases Nat.lt_or_ge k W.heap.size with h1 | h1
    · exact h1
    · rw [Array.getElem?_eq_none h1] at h; cases h
  exact ((Out.set (S := fun k => k = p.block) p u rfl).block k hl hne).trans h
theorem keep_block {W W' : World} {N tb : Nat} {o : Obj} (hb : Below N W W') (h : W.heap[tb]? = some o) (hl : tb < N) : W'.heap[tb]? = some o := (hb.block tb hl).trans h
theorem vals_get {w : World} {r : Raw} {R0 : List Val} {x : Option Addr} (h : x = r.1) (hv : ValsA w 0 w.heap.size r.1 R0) : ValsA w 0 w.heap.size x R0 := by rw [h]; exact hv

set_option maxHeartbeats 8000000 in
theorem spoils_walk (q : Option Addr) (L : List Tab) (c : Nat) (x y : Int) (w : World) (hc : L.length ≤ c) (hc2 : c ≤ 9223372036854775807) (hT : TabsA w 0 w.heap.size q L) (hx : inR x = true) (hy : inR y = true) :
    Calls Try.prog 7 #[.slice q L.length c, .int .i64 x, .int .i64 y] w fun e w' => e = .returned (.bool true) ∧ Below w.heap.size w w' := by
  have hx1 : -9223372036854775808 ≤ x ∧ x ≤ 9223372036854775807 := of_decide_eq_true hx
  have hy1 : -9223372036854775808 ≤ y ∧ y ≤ 9223372036854775807 := of_decide_eq_true hy
  have HT := Lib.hid hT
  clear hx hy hT
  go_enter Try.func7, Try.ntmps7
  go_wp2_with fail
  refine (ex5_any storeC _).mono ?_
  rintro e w1 ⟨rfl, hb1⟩
  have hs1 := hb1.size
  have E1 := Lib.hid hb1
  clear hb1
  go_wp2_with fail
  refine (storeC.right L q c 0 w.heap.size w1 hc hc2 (HT.out.same (Same.of E1.out (Nat.le_refl _))) hs1).mono ?_
  rintro e w2 ⟨⟨b2, rfl, hb2⟩, hB2⟩
  have hs2 := hB2.size
  have E2 := Lib.hid (E1.out.trans (hB2.mono hs1))
  clear hB2
  cases b2 with
  | false =>
    go_wp2
    go_ret
    exact ⟨rfl, E2.out⟩
  | true =>
    have HP := Lib.hid (hb2.1 rfl)
    clear hb2
    by_cases h0 : L.length = 0
    · have h0' : ((L.length : Int) == 0) = true := by simp [h0]
      clear h0
      go_wp2
      go_ret
      exact ⟨rfl, E2.out⟩
    · have h0' : ((L.length : Int) == 0) = false := by simp; intro h; simp [h] at h0
      have hlp : 0 < L.length := by omega
      clear h0
      go_upto_if 25 with fail
      go_cut [1] (fun v wc => ∃ z : Int, v = .int .i64 z ∧ (0 ≤ z ∧ z ≤ 9223372036854775807) ∧ w2 = wc)
      case first =>
        by_cases hx0 : x < 0
        · go_wp2_with fail
          go_meet
          exact ⟨-(x + 1), rfl, by omega, rfl⟩
        · go_wp2_with fail
          go_meet
          exact ⟨x, rfl, by omega, rfl⟩
      case rest =>
        obtain ⟨z, rfl, hz, rfl⟩ := hcut
        clear hx1
        go_upto_if 30 with fail
        go_cut [2] (fun v wc => ∃ z : Int, v = .int .i64 z ∧ (0 ≤ z ∧ z ≤ 9223372036854775807) ∧ w2 = wc)
        case first =>
          by_cases hy0 : y < 0
          · go_wp2_with fail
            go_meet
            exact ⟨-(y + 1), rfl, by omega, rfl⟩
          · go_wp2_with fail
            go_meet
            exact ⟨y, rfl, by omega, rfl⟩
        case rest =>
          obtain ⟨z2, rfl, hz2, rfl⟩ := hcut
          clear hy1
          obtain ⟨i, him, hil⟩ := tmod_pos (z := z) (n := (L.length : Int)) hz.1 (by omega)
          obtain ⟨d, hdm, hd6⟩ := tmod_pos (z := z2) (n := 6) hz2.1 (by omega)
          have hil : i < L.length := by omega
          obtain ⟨g0, off0, rfl, hg1, hg2, hcA⟩ := HT.out i hil
          obtain ⟨t, ht⟩ : ∃ t, t = L[i] := ⟨_, rfl⟩
          have hti : L[i]? = some t := by rw [ht]; exact List.getElem?_eq_getElem hil
          have HTI := Lib.hid hti
          obtain ⟨⟨x0, a3⟩, ⟨p1, c1, x1, a4, a5, hC⟩, p2, c2, x2, a6, a7, hR⟩ := hcA i t hti
          have AA := Lib.hid (show ∀ W, Below w.heap.size w W → W.cell? ⟨g0, off0 + i * 3, none⟩ = some (.string t.nm) ∧ W.cell? ⟨g0, off0 + i * 3 + 1, none⟩ = some (.slice p1 t.cols.length c1) ∧ W.cell? ⟨g0, off0 + i * 3 + 2, none⟩ = some (.slice p2 t.rows.length c2) from fun W h =>
            ⟨(h.cell (p := ⟨g0, _, none⟩) hg2).trans x0, (h.cell (p := ⟨g0, _, none⟩) hg2).trans x1, (h.cell (p := ⟨g0, _, none⟩) hg2).trans x2⟩)
          obtain ⟨a0, a1, a2⟩ := AA.out w2 E2.out
          have CR := Lib.hid (And.intro hC hR)
          have hTP := (HP.out.2 i t hti).1
          have HTP := Lib.hid hTP
          have l8 := HP.out.1
          have l6 := hTP.2.1
          have l20 := hTP.2.2.1
          have hsw := E2.out.size
          clear ht hti hcA hC hR hTP x0 x1 x2
          by_cases hr0 : t.rows.length = 0
          · have hr0' : ((t.rows.length : Int) == 0) = true := by simp [hr0]
            clear hr0
            go_wp2
            go_ret
            exact ⟨rfl, E2.out⟩
          · have hr0' : ((t.rows.length : Int) == 0) = false := by simp; intro h; simp [h] at hr0
            have hrp : 0 < t.rows.length := by omega
            clear hr0
            obtain ⟨K, hK1, hK2, hK3⟩ := HT.out.raw
            have HK := Lib.hid (And.intro hK1 (And.intro (ArrA.imp hK2 fun g o x _ hg h k u hk => (E2.out.cell (p := ⟨g, o + k, none⟩) hg).trans (h k u hk)) hK3))
            have hKn : K.length ≤ 8 ∧ 0 < K.length := by omega
            clear hK1 hK2 hK3
            have hKl := HK.out.1
            go_wp2_with (at_builtin; refine wp_append_flat rfl _ _ 22 30 rfl Try.underlying22 _ 64 Try.infoTab5 rfl (by omega) tabCell_len tabCell_one w2.heap.size _ [] rfl (OwnF.nil _ _ _) _ _ _ K hKl.symm rfl 0 w.heap.size HK.out.2.1 ?l1 ?l2 (Nat.le_refl _) ?_)
            case l1 => unfold maxLen; simp; omega
            case l2 => simp; omega
            intro v3 w3 O3 b3 _
            have O3 : OwnF w3 w2.heap.size 30 3 tabCell v3 K := O3
            clear hKl a0 a1 a2
            obtain ⟨q3, c3, rfl, -, -, -, -⟩ := O3.arr tabCell_len
            obtain ⟨g, rfl, -, hgb, hg3⟩ := O3.at_ hKn.2
            have B3 := Lib.hid (E2.out.trans (b3.mono hsw))
            have O3 := Lib.hid O3
            obtain ⟨a0, a1, a2⟩ := AA.out w3 B3.out
            have hs3 := b3.size
            clear b3
            go_upto_region 13 with fail
            obtain ⟨w4, hw4⟩ : ∃ W, W = w3.alloc (.cells #[.string t.nm, .slice p1 t.cols.length c1, .slice p2 t.rows.length c2] 30) := ⟨_, rfl⟩
            rw [← hw4]
            have T4 : w4.heap[w3.heap.size]? = some (.cells #[.string t.nm, .slice p1 t.cols.length c1, .slice p2 t.rows.length c2] 30 (0, 0)) := by rw [hw4]; exact heap_alloc_new w3 _
            have b34 : Below w3.heap.size w3 w4 := by rw [hw4]; exact (Below.refl _ _).alloc (Nat.le_refl _) _
            have hs4 : w3.heap.size < w4.heap.size := by rw [hw4]; simp
            clear hw4
            obtain ⟨tb, htb⟩ : ∃ tb, tb = w3.heap.size := ⟨_, rfl⟩
            rw [← htb] at T4 hs4 ⊢
            have htw : w2.heap.size ≤ tb ∧ g < tb := by omega
            have B4 := Lib.hid (B3.out.trans (b34.mono (by omega)))
            have O4 := Lib.hid (O3.out.later b34)
            clear htb b34 hs3 hg3 O3 B3 a0 a1 a2
            obtain ⟨KR, hKR1, hKR2, hKR3⟩ := CR.out.2.raw
            have HKR := Lib.hid (And.intro hKR1 hKR3)
            have hKRn : KR.length ≤ 20 ∧ 0 < KR.length := by omega
            have HR4 := Lib.hid (ArrA.imp hKR2 fun g o x _ hg h k u hk => (B4.out.cell (p := ⟨g, o + k, none⟩) hg).trans (h k u hk))
            have c42 : w4.cell? ⟨tb, 2, none⟩ = some (.slice p2 t.rows.length c2) := by rw [Lib.cell_of_heap T4]; rfl
            have T4 := Lib.hid T4
            clear hKR1 hKR2 hKR3
            have hKl := HKR.out.1
            go_wp2_with (at_builtin; refine wp_append_flat rfl _ _ 28 31 rfl Try.underlying28 _ 24 Try.infoRow5 rfl (by omega) rawCell_len rawCell_one w4.heap.size _ [] rfl (OwnF.nil _ _ _) _ _ _ KR hKl.symm rfl 0 w.heap.size HR4.out ?l1 ?l2 (Nat.le_refl _) ?_)
            case l1 => unfold maxLen; simp; omega
            case l2 => simp; omega
            intro v5 w5 O5 b5 _
            have O5 : OwnF w5 w4.heap.size 31 1 rawCell v5 KR := O5
            clear hKl c42 HR4
            obtain ⟨q5, c5, rfl, -, -, -, -⟩ := O5.arr rawCell_len
            obtain ⟨gr, rfl, -, hgr, hgr5⟩ := O5.at_ hKRn.2
            have T5 := keep_block b5 T4.out hs4
            have c52 : w5.cell? ⟨tb, 2, none⟩ = some (.slice p2 t.rows.length c2) := by rw [Lib.cell_of_heap T5]; rfl
            have f5 : ∀ o, w5.frozen? ⟨tb, o, none⟩ = false := fun o => Lib.frozen_of_heap T5 o
            have hs5 := b5.size
            have H5 := Lib.hid (And.intro T5 (And.intro (O4.out.later b5) (And.intro O5 (B4.out.trans (b5.mono B4.out.size)))))
            clear T5 O5 b5 T4 O4 B4
            go_upto_region 14 with fail
            obtain ⟨w6, hw6⟩ : ∃ W, W = w5.setCell ⟨tb, 2, none⟩ (.slice (some ⟨gr, 0, none⟩) KR.length c5) := ⟨_, rfl⟩
            rw [← hw6]
            have T6 : w6.heap[tb]? = some (.cells #[.string t.nm, .slice p1 t.cols.length c1, .slice (some ⟨gr, 0, none⟩) KR.length c5] 30 (0, 0)) := by rw [hw6]; exact tab_set H5.out.1
            have H6 := Lib.hid (show OwnF w6 w2.heap.size 30 3 tabCell (.slice (some ⟨g, 0, none⟩) K.length c3) K ∧ OwnF w6 w4.heap.size 31 1 rawCell (.slice (some ⟨gr, 0, none⟩) KR.length c5) KR ∧ Below w.heap.size w w6 by
              rw [hw6]
              exact ⟨H5.out.2.1.set_other (by show g ≠ tb; omega), H5.out.2.2.1.set_other (by show gr ≠ tb; omega), H5.out.2.2.2.setCell (p := ⟨tb, 2, none⟩) (by show w.heap.size ≤ tb; omega) _⟩)
            have hs6 : w5.heap.size ≤ w6.heap.size ∧ w6.heap.size ≤ w5.heap.size := by rw [hw6]; simp [World.setCell]
            have c61 : w6.cell? ⟨tb, 1, none⟩ = some (.slice p1 t.cols.length c1) := by rw [Lib.cell_of_heap T6]; rfl
            have T6 := Lib.hid T6
            clear hw6 H5 c52 f5
            have CS := Lib.hid (colsA_flat (CR.out.1.same (Same.of H6.out.2.2 (Nat.le_refl _))))
            go_wp2_with (at_builtin; refine wp_append_flat rfl _ _ 27 39 rfl Try.underlying27 _ 24 Try.infoCol5 rfl (by omega) colCell_len colCell_one w6.heap.size _ [] rfl (OwnF.nil _ _ _) _ _ _ t.cols rfl rfl 0 w.heap.size CS.out ?l1 ?l2 (Nat.le_refl _) ?_)
            case l1 => unfold maxLen; simp; omega
            case l2 => simp; omega
            intro v7 w7 O7 b7 _
            have O7 : OwnF w7 w6.heap.size 39 2 colCell v7 t.cols := O7
            obtain ⟨q7, c7, rfl, -, -, -, -⟩ := O7.arr colCell_len
            obtain ⟨gc, rfl, -, hgc, hgc7⟩ := O7.at_ l6.1
            have T7 := keep_block b7 T6.out (by omega)
            have c71 : w7.cell? ⟨tb, 1, none⟩ = some (.slice p1 t.cols.length c1) := by rw [Lib.cell_of_heap T7]; rfl
            have f7 : ∀ o, w7.frozen? ⟨tb, o, none⟩ = false := fun o => Lib.frozen_of_heap T7 o
            have hs7 := b7.size
            have H7 := Lib.hid (And.intro T7 (And.intro (H6.out.1.later b7) (And.intro (H6.out.2.1.later b7) (And.intro O7 (H6.out.2.2.trans (b7.mono H6.out.2.2.size))))))
            clear T7 O7 b7 T6 H6 CS c61
            go_upto_region 15 with fail
            obtain ⟨w8, hw8⟩ : ∃ W, W = w7.setCell ⟨tb, 1, none⟩ (.slice (some ⟨gc, 0, none⟩) t.cols.length c7) := ⟨_, rfl⟩
            rw [← hw8]
            have T8 : w8.heap[tb]? = some (.cells #[.string t.nm, .slice (some ⟨gc, 0, none⟩) t.cols.length c7, .slice (some ⟨gr, 0, none⟩) KR.length c5] 30 (0, 0)) := by rw [hw8]; exact tab_set H7.out.1
            have H8 := Lib.hid (show OwnF w8 w2.heap.size 30 3 tabCell (.slice (some ⟨g, 0, none⟩) K.length c3) K ∧ OwnF w8 w4.heap.size 31 1 rawCell (.slice (some ⟨gr, 0, none⟩) KR.length c5) KR ∧ OwnF w8 w6.heap.size 39 2 colCell (.slice (some ⟨gc, 0, none⟩) t.cols.length c7) t.cols ∧ Below w.heap.size w w8 by
              rw [hw8]
              exact ⟨H7.out.2.1.set_other (by show g ≠ tb; omega), H7.out.2.2.1.set_other (by show gr ≠ tb; omega), H7.out.2.2.2.1.set_other (by show gc ≠ tb; omega), H7.out.2.2.2.2.setCell (p := ⟨tb, 1, none⟩) (by show w.heap.size ≤ tb; omega) _⟩)
            have hs8 : w7.heap.size ≤ w8.heap.size ∧ w8.heap.size ≤ w7.heap.size := by rw [hw8]; simp [World.setCell]
            have c82 : w8.cell? ⟨tb, 2, none⟩ = some (.slice (some ⟨gr, 0, none⟩) KR.length c5) := by rw [Lib.cell_of_heap T8]; rfl
            have T8 := Lib.hid T8
            clear hw8 H7 c71 f7
            obtain ⟨R0, hR0⟩ : ∃ R0, t.rows[0]? = some R0 := ⟨_, List.getElem?_eq_getElem hrp⟩
            obtain ⟨rw0, hrw0⟩ : ∃ r, KR[0]? = some r := ⟨_, List.getElem?_eq_getElem hKRn.2⟩
            obtain ⟨e1, e2, e3, e4⟩ := HKR.out.2 0 rw0 R0 hrw0 hR0
            have hR0l : R0.length = t.cols.length := (HTP.out.2.2.2.2 0 R0 hR0).1
            have c8r : w8.cell? ⟨gr, 0, none⟩ = some (.slice rw0.1 R0.length rw0.2.2) := by
              have := (H8.out.2.1.cellAt rawCell_len hrw0 (k := 0) rfl).1
              rw [← e1]
              exact this
            have HR0 := Lib.hid (And.intro hR0 (And.intro hrw0 (And.intro hR0l (And.intro e1 (And.intro e2 (And.intro e3 e4))))))
            have hR06 : 0 < R0.length ∧ R0.length ≤ 6 := by omega
            have VS := Lib.hid (valsA_flat (e4.same (Same.of H8.out.2.2.2 (Nat.le_refl _))))
            clear hR0 hrw0 e1 e2 e3 e4 hR0l
            go_wp2_with (at_builtin; refine wp_append_flat rfl _ _ 31 37 rfl Try.underlying31 _ 32 Try.infoVal5 rfl (by omega) valCell_len valCell_one w8.heap.size _ [] rfl (OwnF.nil _ _ _) _ _ _ R0 rfl rfl 0 w.heap.size VS.out ?l1 ?l2 (Nat.le_refl _) ?_)
            case l1 => unfold maxLen; simp; omega
            case l2 => simp; omega
            intro v9 w9 O9 b9 _
            have O9 : OwnF w9 w8.heap.size 37 3 valCell v9 R0 := O9
            obtain ⟨q9, c9, rfl, hle9, hc9, -, -⟩ := O9.arr valCell_len
            obtain ⟨gv, rfl, -, hgv, hgv9⟩ := O9.at_ hR06.1
            have T9 := keep_block b9 T8.out (by omega)
            have hs9 := b9.size
            have H9 := Lib.hid (And.intro (H8.out.1.later b9) (And.intro (H8.out.2.1.later b9) (And.intro (H8.out.2.2.1.later b9) (And.intro O9 (H8.out.2.2.2.trans (b9.mono H8.out.2.2.2.size))))))
            have t90 : w9.cell? ⟨tb, 0, none⟩ = some (.string t.nm) := by rw [Lib.cell_of_heap T9]; rfl
            have t91 : w9.cell? ⟨tb, 1, none⟩ = some (.slice (some ⟨gc, 0, none⟩) t.cols.length c7) := by rw [Lib.cell_of_heap T9]; rfl
            have t92 : w9.cell? ⟨tb, 2, none⟩ = some (.slice (some ⟨gr, 0, none⟩) KR.length c5) := by rw [Lib.cell_of_heap T9]; rfl
            have f9 : ∀ o, w9.frozen? ⟨tb, o, none⟩ = false := fun o => Lib.frozen_of_heap T9 o
            have T9 := Lib.hid T9
            clear O9 b9 T8 H8 VS c82 c8r
            go_upto_block 0 with fail
            go_cut [9] (fun vm wc => EndP w wc i tb vm)
            case first =>
              have hTold := Lib.hid (show ∀ (g' : Nat) (W : World), Below w.heap.size w W → w.heap.size ≤ g' → ∀ (j : Nat) (r : RawTab) (u : Tab), K[j]? = some r → L[j]? = some u → TabG g' W r u from fun g' W hE hg j r u hr hu => tabG_old (HK.out.2.2 j r u hr hu) hE hg)
              have hRold := Lib.hid (show ∀ (g' : Nat) (W : World), Below w.heap.size w W → w.heap.size ≤ g' → ∀ (j : Nat) (r : Raw) (x : List Val), KR[j]? = some r → t.rows[j]? = some x → RowG g' W r x from fun g' W hE hg j r x hr hx => by
                obtain ⟨e1, e2, e3, e4⟩ := HKR.out.2 j r x hr hx
                exact rowG_old e1 e2 e3 e4 hE hg)
              have hNM := Lib.hid (show t.nm.size ≤ 9223372036854775807 ∧ ∀ x ∈ t.cols, x.nm.size ≤ 9223372036854775807 from ⟨a3, CR.out.1.names⟩)
              have hKL := HK.out.1
              have HKL := Lib.hid hKL
              have hKRL := HKR.out.1
              have HKRL := Lib.hid hKRL
              clear hKL hKRL
              rcases (show d = 0 ∨ d = 1 ∨ d = 2 ∨ d = 3 ∨ d = 4 ∨ d = 5 by omega) with hd | hd | hd | hd | hd | hd
              · subst hd
                have hbd : Below w9.heap.size w9 (w9.alloc (.cells #[.string t.nm, .slice (some ⟨gc, 0, none⟩) t.cols.length c7, .slice (some ⟨gr, 0, none⟩) KR.length c5] 30)) := ext_alloc (ext_refl w9) _
                have OM := Lib.hid (H9.out.1.later hbd)
                have hR1 : ArrA 0 (w9.heap.size + 1) (some ⟨w9.heap.size, 0, none⟩) 3 [(⟨t.nm, some ⟨gc, 0, none⟩, t.cols.length, c7, some ⟨gr, 0, none⟩, KR.length, c5⟩ : RawTab)] (fun g o r => ∀ (k : Nat) u, (tabCell r)[k]? = some u → (w9.alloc (.cells #[.string t.nm, .slice (some ⟨gc, 0, none⟩) t.cols.length c7, .slice (some ⟨gr, 0, none⟩) KR.length c5] 30)).cell? ⟨g, o + k, none⟩ = some u) := fun j hj => ⟨w9.heap.size, 0, rfl, Nat.zero_le _, by omega, fun n r hr k u hk => by
                  have hn : n = 0 := by have := (List.getElem?_eq_some_iff.1 hr).1; simp at this; omega
                  subst hn
                  simp only [List.getElem?_cons_zero, Option.some.injEq] at hr
                  subst hr
                  rw [Lib.cell_of_heap (heap_alloc_new w9 _)]
                  simpa using hk⟩
                have HR1 := Lib.hid hR1
                have BD := Lib.hid (H9.out.2.2.2.2.trans (hbd.mono H9.out.2.2.2.2.size))
                have hs9w := H9.out.2.2.2.2.size
                have hs9' : w2.heap.size ≤ w9.heap.size := by omega
                clear hR1
                go_wp2_with (at_builtin; refine wp_append_flat rfl _ _ 22 30 rfl Try.underlying22 _ 64 Try.infoTab5 rfl (by omega) tabCell_len tabCell_one w2.heap.size _ K rfl OM.out _ _ _ [⟨t.nm, some ⟨gc, 0, none⟩, t.cols.length, c7, some ⟨gr, 0, none⟩, KR.length, c5⟩] rfl rfl 0 (w9.heap.size + 1) HR1.out ?l1 ?l2 (by simp; omega) ?_)
                case l1 => unfold maxLen; simp; omega
                case l2 => simp; omega
                intro vA wA OA bA oA
                obtain ⟨qA, cA, rfl, -, -, -, -⟩ := OA.arr tabCell_len
                obtain ⟨gA, rfl, -, hgA, hgA2⟩ := OA.at_ (by simp)
                have hkeep : ∀ k, (Value.slice (some ⟨g, 0, none⟩) K.length c3).ownBlock = some k → k = g := fun k hk => (by simpa [Value.ownBlock] using hk : g = k).symm
                have oA' : Out (fun k => k = g) _ wA := oA.mono (fun k _ hk => hkeep k hk)
                have hS : ∀ k, k = g → ∃ cur, (w9.alloc (.cells #[.string t.nm, .slice (some ⟨gc, 0, none⟩) t.cols.length c7, .slice (some ⟨gr, 0, none⟩) KR.length c5] 30)).heap[k]? = some (.cells cur 30 (0, 0)) := fun k hk => by rw [hk]; exact OM.out.ty g rfl
                have hEA : Below w.heap.size w wA := BD.out.trans (oA'.below BD.out.size (fun k hk => by omega))
                have TA := (oA'.block tb (by simp; omega) (by omega)).trans (keep_block hbd T9.out (by omega))
                have CA := (H9.out.2.2.1.later hbd).kept_ty oA' hS (by decide)
                have RA := (H9.out.2.1.later hbd).kept_ty oA' hS (by decide)
                have HH := Lib.hid (And.intro OA (And.intro hEA (And.intro TA (And.intro CA RA))))
                clear OA bA oA oA' hS hEA TA CA RA hkeep hbd
                go_wp2_with fail
                go_meet
                have hset : (L ++ [t]).set i t = L ++ [t] := List.ext_getElem? fun n => by
                  rw [List.getElem?_set]
                  split
                  · rename_i e
                    rw [← e, List.getElem?_append_left hil, HTI.out]
                    split
                    · rfl
                    · rename_i h
                      exact absurd (show i < (L ++ [t]).length by simp; omega) h
                  · rfl
                exact EndP.of (i := i) (K := K ++ [⟨t.nm, some ⟨gc, 0, none⟩, t.cols.length, c7, some ⟨gr, 0, none⟩, KR.length, c5⟩]) (L := L ++ [t]) (r := ⟨t.nm, some ⟨gc, 0, none⟩, t.cols.length, c7, some ⟨gr, 0, none⟩, KR.length, c5⟩) (t := t) HH.out.1 (by simp [HKL.out]) (by simp; omega) (fun j r u hr hu => by
                  by_cases hj : j < K.length
                  · rw [List.getElem?_append_left hj] at hr
                    rw [List.getElem?_append_left (by rw [← HKL.out]; exact hj)] at hu
                    exact hTold.out gA _ HH.out.2.1 (by omega) j r u hr hu
                  · have hjk : j = K.length := by
                      have := (List.getElem?_eq_some_iff.1 hr).1
                      simp at this
                      omega
                    rw [hjk, List.getElem?_append_right (Nat.le_refl _), Nat.sub_self] at hr
                    rw [hjk, HKL.out, List.getElem?_append_right (Nat.le_refl _), Nat.sub_self] at hu
                    simp only [List.getElem?_cons_zero, Option.some.injEq] at hr hu
                    subst hr hu
                    exact tabG_new ⟨rfl, hNM.out.1⟩ HH.out.2.2.2.1 hNM.out.2 HH.out.2.2.2.2 HKRL.out (hRold.out gA _ HH.out.2.1 (by omega)) (HH.out.1.ty gA rfl)) HH.out.2.2.1
                  (tabG_new ⟨rfl, hNM.out.1⟩ HH.out.2.2.2.1 hNM.out.2 HH.out.2.2.2.2 HKRL.out (hRold.out gA _ HH.out.2.1 (by omega)) (HH.out.1.ty gA rfl)) (by rw [hset]; exact spoil_two HTI.out rfl) HH.out.2.1 hsw
              · subst hd
                go_wp2_with fail
                go_meet
                have hE : Below w.heap.size w (w9.setCell ⟨tb, 0, none⟩ (.string ⟨#[102, 114, 111, 109]⟩)) := H9.out.2.2.2.2.setCell (p := ⟨tb, 0, none⟩) (by show w.heap.size ≤ tb; omega) _
                have hm := H9.out.1.set_other (p := ⟨tb, 0, none⟩) (u := .string ⟨#[102, 114, 111, 109]⟩) (by show g ≠ tb; omega)
                exact EndP.of (r := ⟨⟨#[102, 114, 111, 109]⟩, some ⟨gc, 0, none⟩, t.cols.length, c7, some ⟨gr, 0, none⟩, KR.length, c5⟩) (t := ⟨⟨#[102, 114, 111, 109]⟩, t.cols, t.rows⟩) hm HKL.out hil (hTold.out g _ hE (by omega)) (tab_set T9.out)
                  (tabG_new ⟨rfl, by show 4 ≤ 9223372036854775807; omega⟩ (H9.out.2.2.1.set_other (by show gc ≠ tb; omega)) hNM.out.2 (H9.out.2.1.set_other (by show gr ≠ tb; omega)) HKRL.out (hRold.out g _ hE (by omega)) (hm.ty g rfl)) (spoil_set hil (spoil_word name_from)) hE hsw
              · subst hd
                obtain ⟨n0, hn0⟩ : ∃ n, R0.length = n + 1 := ⟨R0.length - 1, by omega⟩
                obtain ⟨hR0, hrw0, hR0l, e1, e2, e3, e4⟩ := HR0.out
                have x1 := H9.out.2.1.cellAt rawCell_len hrw0 (k := 0) rfl
                have x2 : w9.cell? ⟨gr, 0, none⟩ = some (.slice rw0.1 rw0.2.1 rw0.2.2) := x1.1
                have x3 : ∀ o, w9.frozen? ⟨gr, o, none⟩ = false := x1.2
                have hnc : n0 ≤ c9 := by omega
                have KS := Lib.hid (show ∀ u, (w9.drew.setCell ⟨gr, 0, none⟩ u).cell? ⟨tb, 2, none⟩ = some (.slice (some ⟨gr, 0, none⟩) KR.length c5) from fun u => (World.cell?_setCell_other _ _ _ _ (fun e => by injection e with e; omega)).trans t92)
                have HN := Lib.hid hn0
                have hnl : n0 ≤ R0.length := by omega
                have hsub : (R0.length : Int) - 1 = (n0 : Int) := by omega
                have hb0 : (0 : Int) ≤ (n0 : Int) := by omega
                have hb1 : (n0 : Int) ≤ (c9 : Int) := by omega
                have hw0 : IntKind.i64.wrap (n0 : Int) = (n0 : Int) := by rw [IntKind.wrap_i64]; omega
                clear hn0
                clear hR0 hrw0 hR0l e1 e2 e3 e4 x1
                go_wp2_with fail
                go_region_held3 (fun W => W.cell? ⟨tb, 2, none⟩ = some (.slice (some ⟨gr, 0, none⟩) KR.length c5)) (first | exact t92 | exact KS.out _) ((fail))
                go_wp2_with fail
                go_meet
                have bd : Below w9.heap.size w9 w9.drew := (Below.refl _ _).drew
                have hE : Below w.heap.size w (w9.drew.setCell ⟨gr, 0, none⟩ (.slice (some ⟨gv, 0, none⟩) n0 c9)) := (H9.out.2.2.2.2.trans (bd.mono H9.out.2.2.2.2.size)).setCell (p := ⟨gr, 0, none⟩) (by show w.heap.size ≤ gr; omega) _
                have hm := (H9.out.1.later bd).set_other (p := ⟨gr, 0, none⟩) (u := .slice (some ⟨gv, 0, none⟩) n0 c9) (by show g ≠ gr; omega)
                have hvv := (H9.out.2.2.2.1.later bd).set_other (p := ⟨gr, 0, none⟩) (u := .slice (some ⟨gv, 0, none⟩) n0 c9) (by show gv ≠ gr; omega)
                have hrr := (H9.out.2.1.later bd).setc (x' := (some ⟨gv, 0, none⟩, n0, c9)) (k := 0) (u := .slice (some ⟨gv, 0, none⟩) n0 c9) rawCell_len HR0.out.2.1 (by omega) rfl
                have hkl : (KR.set 0 (some ⟨gv, 0, none⟩, n0, c9)).length = KR.length := List.length_set
                have htl : (R0.take n0).length = n0 := by rw [List.length_take]; omega
                exact EndP.of (i := i) (r := ⟨t.nm, some ⟨gc, 0, none⟩, t.cols.length, c7, some ⟨gr, 0, none⟩, KR.length, c5⟩) (t := ⟨t.nm, t.cols, t.rows.set 0 (R0.take n0)⟩) hm HKL.out hil (hTold.out g _ hE (by omega)) (heap_set_other (W := w9.drew) T9.out (by show tb ≠ gr; omega))
                  (tabG_new ⟨rfl, hNM.out.1⟩ ((H9.out.2.2.1.later bd).set_other (by show gc ≠ gr; omega)) hNM.out.2 hrr (by rw [hkl, List.length_set]; exact HKRL.out) (fun j ra x hra hx => by
                    by_cases hj : j = 0
                    · subst hj
                      rw [List.getElem?_set_self hKRn.2] at hra
                      rw [List.getElem?_set_self hrp] at hx
                      cases hra
                      cases hx
                      refine ⟨htl.symm, by rw [htl]; exact hnc, hc9, fun W' o => ?_⟩
                      have hv2 := (hvv.kept_ty o (fun k hk => by rw [hk]; exact hm.ty g rfl) (by decide)).vals.2.arr
                      exact (ArrA.take hv2 n0).wide (Nat.zero_le _) (Nat.le_refl _)
                    · rw [List.getElem?_set_ne (Ne.symm hj)] at hra hx
                      exact hRold.out g _ hE (by omega) j ra x hra hx) (hm.ty g rfl)) (spoil_set hil (spoil_row (r := R0.take n0) (by rw [List.getElem?_set_self hrp]) (by
                    rw [htl]
                    show n0 ≠ t.cols.length
                    have h1 := HR0.out.2.2.1
                    have h2 := HN.out
                    omega))) hE hsw
              · subst hd
                obtain ⟨v0, Rr, hR⟩ : ∃ v l, R0 = v :: l := by
                  cases hR : R0 with
                  | nil => rw [hR] at hR06; simp at hR06
                  | cons v l => exact ⟨v, l, rfl⟩
                have hv0 : R0[0]? = some v0 := by rw [hR]; rfl
                have y0 := H9.out.2.2.2.1.cellAt valCell_len hv0 (k := 0) rfl
                have y1 := H9.out.2.2.2.1.cellAt valCell_len hv0 (k := 1) rfl
                have y2 := H9.out.2.2.2.1.cellAt valCell_len hv0 (k := 2) rfl
                have z0 : w9.cell? ⟨gv, 0, none⟩ = some (.int .i64 v0.k) := y0.1
                have z1 : w9.cell? ⟨gv, 1, none⟩ = some (.int .i64 v0.n) := y1.1
                have z2' : w9.cell? ⟨gv, 2, none⟩ = some (.string v0.s) := y2.1
                have z3 : ∀ o, w9.frozen? ⟨gv, o, none⟩ = false := y0.2
                obtain ⟨hR0, hrw0, hR0l, e1, e2, e3, e4⟩ := HR0.out
                have x1 := H9.out.2.1.cellAt rawCell_len hrw0 (k := 0) rfl
                have x2 : w9.cell? ⟨gr, 0, none⟩ = some (.slice rw0.1 rw0.2.1 rw0.2.2) := x1.1
                have x3 : ∀ o, w9.frozen? ⟨gr, o, none⟩ = false := x1.2
                have HV0 := Lib.hid hv0
                have ne1 : gv ≠ gr := by omega
                have ne2 : gv ≠ tb := by omega
                have ne3 : gr ≠ tb := by omega
                clear hR0 hrw0 hR0l e1 e2 e3 e4 x1 y0 y1 y2 hv0 hR
                go_wp2_with fail
                go_meet
                have hE : Below w.heap.size w ((((w9.setCell ⟨gv, 0, none⟩ (.int .i64 4)).setCell ⟨gv, 1, none⟩ (.int .i64 0)).setCell ⟨gv, 2, none⟩ (.string ⟨#[]⟩)).setCell ⟨gr, 0, none⟩ (.slice (some ⟨gv, 0, none⟩) R0.length c9)) := (((H9.out.2.2.2.2.setCell (p := ⟨gv, 0, none⟩) (by show w.heap.size ≤ gv; omega) _).setCell (p := ⟨gv, 1, none⟩) (by show w.heap.size ≤ gv; omega) _).setCell (p := ⟨gv, 2, none⟩) (by show w.heap.size ≤ gv; omega) _).setCell (p := ⟨gr, 0, none⟩) (by show w.heap.size ≤ gr; omega) _
                have hm : OwnF ((((w9.setCell ⟨gv, 0, none⟩ (.int .i64 4)).setCell ⟨gv, 1, none⟩ (.int .i64 0)).setCell ⟨gv, 2, none⟩ (.string ⟨#[]⟩)).setCell ⟨gr, 0, none⟩ (.slice (some ⟨gv, 0, none⟩) R0.length c9)) w2.heap.size 30 3 tabCell (.slice (some ⟨g, 0, none⟩) K.length c3) K := (((H9.out.1.set_other (p := ⟨gv, 0, none⟩) (by show g ≠ gv; omega)).set_other (p := ⟨gv, 1, none⟩) (by show g ≠ gv; omega)).set_other (p := ⟨gv, 2, none⟩) (by show g ≠ gv; omega)).set_other (p := ⟨gr, 0, none⟩) (by show g ≠ gr; omega)
                have hcc : OwnF ((((w9.setCell ⟨gv, 0, none⟩ (.int .i64 4)).setCell ⟨gv, 1, none⟩ (.int .i64 0)).setCell ⟨gv, 2, none⟩ (.string ⟨#[]⟩)).setCell ⟨gr, 0, none⟩ (.slice (some ⟨gv, 0, none⟩) R0.length c9)) w6.heap.size 39 2 colCell (.slice (some ⟨gc, 0, none⟩) t.cols.length c7) t.cols := (((H9.out.2.2.1.set_other (p := ⟨gv, 0, none⟩) (by show gc ≠ gv; omega)).set_other (p := ⟨gv, 1, none⟩) (by show gc ≠ gv; omega)).set_other (p := ⟨gv, 2, none⟩) (by show gc ≠ gv; omega)).set_other (p := ⟨gr, 0, none⟩) (by show gc ≠ gr; omega)
                have hr3 := ((H9.out.2.1.set_other (p := ⟨gv, 0, none⟩) (u := .int .i64 4) (by show gr ≠ gv; omega)).set_other (p := ⟨gv, 1, none⟩) (u := .int .i64 0) (by show gr ≠ gv; omega)).set_other (p := ⟨gv, 2, none⟩) (u := .string ⟨#[]⟩) (by show gr ≠ gv; omega)
                have hrr := hr3.setc (x' := (some ⟨gv, 0, none⟩, R0.length, c9)) (k := 0) (u := .slice (some ⟨gv, 0, none⟩) R0.length c9) rawCell_len HR0.out.2.1 (by omega) rfl
                have s1 := H9.out.2.2.2.1.setc (x' := ⟨4, v0.n, v0.s⟩) (k := 0) (u := .int .i64 4) valCell_len HV0.out (by omega) rfl
                have s2 := s1.setc (j := 0) (x := ⟨4, v0.n, v0.s⟩) (x' := ⟨4, 0, v0.s⟩) (k := 1) (u := .int .i64 0) valCell_len (by rw [List.getElem?_set_self hR06.1]) (by omega) rfl
                have s3 := s2.setc (j := 0) (x := ⟨4, 0, v0.s⟩) (x' := ⟨4, 0, ⟨#[]⟩⟩) (k := 2) (u := .string ⟨#[]⟩) valCell_len (by rw [List.getElem?_set_self (by rw [List.length_set]; exact hR06.1)]) (by omega) rfl
                rw [List.set_set, List.set_set] at s3
                have hvv := s3.set_other (p := ⟨gr, 0, none⟩) (u := .slice (some ⟨gv, 0, none⟩) R0.length c9) (by show gv ≠ gr; omega)
                have hvv : OwnF ((((w9.setCell ⟨gv, 0, none⟩ (.int .i64 4)).setCell ⟨gv, 1, none⟩ (.int .i64 0)).setCell ⟨gv, 2, none⟩ (.string ⟨#[]⟩)).setCell ⟨gr, 0, none⟩ (.slice (some ⟨gv, 0, none⟩) R0.length c9)) w8.heap.size 37 3 valCell (.slice (some ⟨gv, 0, none⟩) R0.length c9) (R0.set 0 ⟨4, 0, ⟨#[]⟩⟩) := hvv
                have hTT : ((((w9.setCell ⟨gv, 0, none⟩ (.int .i64 4)).setCell ⟨gv, 1, none⟩ (.int .i64 0)).setCell ⟨gv, 2, none⟩ (.string ⟨#[]⟩)).setCell ⟨gr, 0, none⟩ (.slice (some ⟨gv, 0, none⟩) R0.length c9)).heap[tb]? = _ := heap_set_other (p := ⟨gr, 0, none⟩) (heap_set_other (p := ⟨gv, 2, none⟩) (heap_set_other (p := ⟨gv, 1, none⟩) (heap_set_other (p := ⟨gv, 0, none⟩) T9.out (by show tb ≠ gv; omega)) (by show tb ≠ gv; omega)) (by show tb ≠ gv; omega)) (by show tb ≠ gr; omega)
                have hkl : (KR.set 0 (some ⟨gv, 0, none⟩, R0.length, c9)).length = KR.length := List.length_set
                have htl : (R0.set 0 ⟨4, 0, ⟨#[]⟩⟩).length = R0.length := List.length_set
                exact EndP.of (i := i) (r := ⟨t.nm, some ⟨gc, 0, none⟩, t.cols.length, c7, some ⟨gr, 0, none⟩, KR.length, c5⟩) (t := ⟨t.nm, t.cols, t.rows.set 0 (R0.set 0 ⟨4, 0, ⟨#[]⟩⟩)⟩) hm HKL.out hil (hTold.out g _ hE (by omega)) hTT
                  (tabG_new ⟨rfl, hNM.out.1⟩ hcc hNM.out.2 hrr (by rw [hkl, List.length_set]; exact HKRL.out) (fun j ra x hra hx => by
                    by_cases hj : j = 0
                    · subst hj
                      rw [List.getElem?_set_self hKRn.2] at hra
                      rw [List.getElem?_set_self hrp] at hx
                      cases hra
                      cases hx
                      refine ⟨htl.symm, by rw [htl]; exact hle9, hc9, fun W' o => ?_⟩
                      have hv2 := (hvv.kept_ty o (fun k hk => by rw [hk]; exact hm.ty g rfl) (by decide)).vals.2.arr
                      exact ArrA.wide hv2 (Nat.zero_le _) (Nat.le_refl _)
                    · rw [List.getElem?_set_ne (Ne.symm hj)] at hra hx
                      exact hRold.out g _ hE (by omega) j ra x hra hx) (hm.ty g rfl)) (spoil_set hil (spoil_val (r := R0.set 0 ⟨4, 0, ⟨#[]⟩⟩) (v := ⟨4, 0, ⟨#[]⟩⟩) (by rw [List.getElem?_set_self hrp]) (by rw [List.getElem?_set_self hR06.1]) (four_no _ rfl))) hE hsw
              · subst hd
                obtain ⟨cc0, hc0⟩ : ∃ c, t.cols[0]? = some c := ⟨_, List.getElem?_eq_getElem (by omega)⟩
                have y0 := H9.out.2.2.1.cellAt colCell_len hc0 (k := 0) rfl
                have y1 := H9.out.2.2.1.cellAt colCell_len hc0 (k := 1) rfl
                have z0 : w9.cell? ⟨gc, 0, none⟩ = some (.string cc0.nm) := y0.1
                have z1 : w9.cell? ⟨gc, 1, none⟩ = some (.int .i64 cc0.kd) := y1.1
                have HC0 := Lib.hid hc0
                have hbd : Below w9.heap.size w9 (w9.drew.alloc (.cells #[.string cc0.nm, .int .i64 cc0.kd] 39)) := ((Below.refl _ _).drew).alloc (by simp) _
                have OC := Lib.hid (H9.out.2.2.1.later hbd)
                have hR1 : ArrA 0 (w9.heap.size + 1) (some ⟨w9.heap.size, 0, none⟩) 2 [cc0] (fun g o r => ∀ (k : Nat) u, (colCell r)[k]? = some u → (w9.drew.alloc (.cells #[.string cc0.nm, .int .i64 cc0.kd] 39)).cell? ⟨g, o + k, none⟩ = some u) := fun j hj => ⟨w9.heap.size, 0, rfl, Nat.zero_le _, by omega, fun n r hr k u hk => by
                  have hn : n = 0 := by have := (List.getElem?_eq_some_iff.1 hr).1; simp at this; omega
                  subst hn
                  simp only [List.getElem?_cons_zero, Option.some.injEq] at hr
                  subst hr
                  have h := heap_alloc_new w9.drew (.cells #[.string cc0.nm, .int .i64 cc0.kd] 39)
                  rw [World.size_drew] at h
                  rw [Lib.cell_of_heap h]
                  simpa using hk⟩
                have HR1 := Lib.hid hR1
                have BD := Lib.hid (H9.out.2.2.2.2.trans (hbd.mono H9.out.2.2.2.2.size))
                have TD := Lib.hid (keep_block hbd T9.out (by omega))
                have hs9w := H9.out.2.2.2.2.size
                have HBD := Lib.hid hbd
                have hgct : gc ≠ tb := by omega
                have htb9 : tb < w9.heap.size := by omega
                have hci : (0 : Int) < (t.cols.length : Int) := by omega
                have hcj : 0 < t.cols.length := by omega
                clear y0 y1 hR1 hc0 hbd
                go_wp2_with fail
                go_region_law (first
                  | (refine step_append_flat rfl _ _ 27 39 rfl Try.underlying27 _ 24 Try.infoCol5 rfl (by omega) colCell_len colCell_one w6.heap.size (.slice (some ⟨gc, 0, none⟩) t.cols.length c7) t.cols rfl OC.out _ _ _ [cc0] rfl rfl 0 (w9.heap.size + 1) HR1.out (by unfold maxLen; simp; omega) (by simp; omega) (by simp; omega) ?_; intro qA cA wA OA bA oA hatA; obtain ⟨gA, rfl, -, hgA, hgA2⟩ := OA.at_ (by simp); have oA' : Out (fun k => k = gc) (w9.drew.alloc (.cells #[.string cc0.nm, .int .i64 cc0.kd] 39)) wA := oA.mono (fun k _ hk => (show k = gc from ((by simpa [Value.ownBlock] using hk : gc = k)).symm)); have TA := (oA'.block tb (by simp; omega) (fun e => hgct e.symm)).trans TD.out; have cA1 : wA.cell? ⟨tb, 1, none⟩ = some (.slice (some ⟨gc, 0, none⟩) t.cols.length c7) := (by rw [Lib.cell_of_heap TA]; rfl); have fA1 : ∀ o, wA.frozen? ⟨tb, o, none⟩ = false := (fun o => Lib.frozen_of_heap TA o); have HA4 := Lib.hid (And.intro OA (And.intro oA' TA)); clear OA bA oA oA' TA hatA))
                all_goals go_wp2_with fail
                all_goals go_meet
                all_goals
                  have hcn : (t.cols ++ [cc0]).length = t.cols.length + 1 := by simp
                  have hEA : Below w.heap.size w wA := BD.out.trans (HA4.out.2.1.below BD.out.size (fun k hk => by omega))
                  have hE : Below w.heap.size w (wA.setCell ⟨tb, 1, none⟩ (.slice (some ⟨gA, 0, none⟩) (t.cols.length + 1) cA)) := hEA.setCell (p := ⟨tb, 1, none⟩) (by show w.heap.size ≤ tb; omega) _
                  have hS : ∀ k, k = gc → ∃ cur, (w9.drew.alloc (.cells #[.string cc0.nm, .int .i64 cc0.kd] 39)).heap[k]? = some (.cells cur 39 (0, 0)) := fun k hk => by rw [hk]; exact OC.out.ty gc rfl
                  have hm := ((H9.out.1.later HBD.out).kept_ty HA4.out.2.1 hS (by decide)).set_other (p := ⟨tb, 1, none⟩) (u := .slice (some ⟨gA, 0, none⟩) (t.cols.length + 1) cA) (by show g ≠ tb; omega)
                  have hrr := ((H9.out.2.1.later HBD.out).kept_ty HA4.out.2.1 hS (by decide)).set_other (p := ⟨tb, 1, none⟩) (u := .slice (some ⟨gA, 0, none⟩) (t.cols.length + 1) cA) (by show gr ≠ tb; omega)
                  have hgA0 : gA ≠ tb := fun e => by
                    obtain ⟨cu, hcu⟩ := HA4.out.1.ty gA rfl
                    rw [e, HA4.out.2.2] at hcu
                    injection hcu with hcu
                    injection hcu with _ hcu
                    exact absurd hcu (by decide)
                  have hcc := HA4.out.1.set_other (p := ⟨tb, 1, none⟩) (u := .slice (some ⟨gA, 0, none⟩) (t.cols.length + 1) cA) hgA0
                  rw [hcn] at hcc
                  exact EndP.of (i := i) (r := ⟨t.nm, some ⟨gA, 0, none⟩, t.cols.length + 1, cA, some ⟨gr, 0, none⟩, KR.length, c5⟩) (t := ⟨t.nm, t.cols ++ [cc0], t.rows⟩) hm HKL.out hil (hTold.out g _ hE (by omega)) (tab_set HA4.out.2.2)
                    (tabG_new ⟨rfl, hNM.out.1⟩ hcc (fun x hx => by
                      rcases List.mem_append.1 hx with h | h
                      · exact hNM.out.2 x h
                      · rw [List.mem_singleton.1 h]; exact hNM.out.2 cc0 (List.mem_of_getElem? HC0.out)) hrr HKRL.out (hRold.out g _ hE (by omega)) (hm.ty g rfl)) (spoil_set hil (spoil_col (c := cc0) (n := t.cols.length) (by show (t.cols ++ [cc0])[0]? = _; rw [List.getElem?_append_left (by omega)]; exact HC0.out) (by show (t.cols ++ [cc0])[t.cols.length]? = _; simp) (by omega))) hE hsw
              · subst hd
                obtain ⟨cc0, hc0⟩ : ∃ c, t.cols[0]? = some c := ⟨_, List.getElem?_eq_getElem (by omega)⟩
                have y1 := H9.out.2.2.1.cellAt colCell_len hc0 (k := 1) rfl
                have z1 : w9.cell? ⟨gc, 1, none⟩ = some (.int .i64 cc0.kd) := y1.1
                have z3 : ∀ o, w9.frozen? ⟨gc, o, none⟩ = false := y1.2
                have HC0 := Lib.hid hc0
                clear y1 hc0
                go_wp2_with fail
                go_meet
                have hE : Below w.heap.size w (w9.setCell ⟨gc, 1, none⟩ (.int .i64 0)) := H9.out.2.2.2.2.setCell (p := ⟨gc, 1, none⟩) (by show w.heap.size ≤ gc; omega) _
                have hm := H9.out.1.set_other (p := ⟨gc, 1, none⟩) (u := .int .i64 0) (by show g ≠ gc; omega)
                have hcs := H9.out.2.2.1.setc (x' := ⟨cc0.nm, 0⟩) (k := 1) (u := .int .i64 0) colCell_len HC0.out (by omega) rfl
                have hsl : (t.cols.set 0 ⟨cc0.nm, 0⟩).length = t.cols.length := List.length_set
                exact EndP.of (r := ⟨t.nm, some ⟨gc, 0, none⟩, t.cols.length, c7, some ⟨gr, 0, none⟩, KR.length, c5⟩) (t := ⟨t.nm, t.cols.set 0 ⟨cc0.nm, 0⟩, t.rows⟩) hm HKL.out hil (hTold.out g _ hE (by omega)) (heap_set_other T9.out (by show tb ≠ gc; omega))
                  (tabG_new ⟨rfl, hNM.out.1⟩ hcs (fun x hx => by
                    rcases List.mem_or_eq_of_mem_set hx with h | h
                    · exact hNM.out.2 x h
                    · rw [h]; exact hNM.out.2 cc0 (List.mem_of_getElem? HC0.out)) (H9.out.2.1.set_other (by show gr ≠ gc; omega)) HKRL.out (hRold.out g _ hE (by omega)) (hm.ty g rfl)) (spoil_set hil (spoil_kind (c := ⟨cc0.nm, 0⟩) (by rw [List.getElem?_set_self (by omega)]) rfl)) hE hsw
            case rest =>
              obtain ⟨g9, cm, r, M, rfl, hM1, hM2, hiM, hT, ⟨⟨y0, hy0⟩, ⟨y1, hy1⟩, ⟨y2, hy2⟩⟩, hf, hA, hnP, hE⟩ := hcut.at_
              have t0 : wc.cell? ⟨tb, 0, none⟩ = some (.string r.nm) := by rw [Lib.cell_of_heap hT]; rfl
              have t1 : wc.cell? ⟨tb, 1, none⟩ = some (.slice r.qc r.nc r.cc) := by rw [Lib.cell_of_heap hT]; rfl
              have t2 : wc.cell? ⟨tb, 2, none⟩ = some (.slice r.qr r.nr r.cr) := by rw [Lib.cell_of_heap hT]; rfl
              have HA := Lib.hid (And.intro hA (And.intro hnP hE))
              clear hcut hT hA hnP hE t90 t91 t92 f9 T9 H9
              go_wp2_with fail
              refine (storeC.open_ M _ cm 0 _ (set3 wc g9 i r) hM1 hM2 HA.out.1 (Nat.le_refl _)).mono ?_
              rintro e w10 ⟨hB, (⟨hp, _⟩ | ⟨_, rfl⟩)⟩
              · exact absurd hp HA.out.2.1
              · have HB := Lib.hid hB
                clear hB t0 t1 t2 hf hy0 hy1 hy2
                go_wp2_with fail
                refine (storeC.right M _ cm 0 (set3 wc g9 i r).heap.size w10 hM1 hM2 (HA.out.1.same (Same.of HB.out (Nat.le_refl _))) HB.out.size).mono ?_
                rintro e w11 ⟨ht, hB2⟩
                obtain rfl := ht.no_of HA.out.2.1
                have HB2 := Lib.hid hB2
                clear ht hB2
                go_wp2
                go_ret
                exact ⟨rfl, (HA.out.2.2.trans (HB.out.mono HA.out.2.2.size)).trans (HB2.out.mono (Nat.le_trans HA.out.2.2.size HB.out.size))⟩

/- FRAME -/

set_option maxRecDepth 100000 in
theorem storeSpoils_lifted (os : Os) (started : os.Started) (H : Type) (enc : TypeId × Value → H) :
    ReturnsInHanded {} Try.checked os 7 .any (Rows.storeSpoilsSpec.pre6 enc Try.prog Try.f7 Rows.storeSpoilsRow.domain false) (Rows.storeSpoilsSpec.post enc Try.prog Try.f7 false true false false) := by
  refine returnsInHanded_of_change_sized (C := Try.checked) Try.own started (by kernel_rfl) Try.func7
    (ChangeSpec.witness6 (enc := enc) (C := Try.checked) false ⟨#[], #[.slice none 0 0, .int .i64 0, .int .i64 0], []⟩ 8 (by kernel_rfl) (by kernel_rfl) (by kernel_rfl) (by kernel_rfl)) ?_
  intro W base args ds gs before hval0 hW _ hsz _
  have hval : ∀ (j : Nat) t v, Try.f7.params[j]? = some t → args[j]? = some v → Value.okWide Try.prog W .any base t v := hval0
  have hW' := hW
  obtain ⟨p, q, hA0, hV, rfl, _, _⟩ := hW
  have hA : DataW.TrodAll enc Try.prog W 0 (fun _ => true) true Try.f7.params.toList args.toList ds p := hA0
  rw [Try.params7] at hA hval hsz
  obtain ⟨v0, v1, v2, d0, d1, d2, p0, p1, p2, rfl, rfl, rfl, h0, h1, h2⟩ := trodAll_three hA
  obtain ⟨z1, rfl, iz1⟩ := open_num (hval 1 3 v1 rfl rfl) h1
  obtain ⟨z2, rfl, iz2⟩ := open_num (hval 2 3 v2 rfl rfl) h2
  obtain ⟨q0, L0, c0, rfl, le0, m0, rb0, tx0, tr0⟩ := open_tables (hval 0 22 v0 rfl rfl) h0 (fun n hn => of_decide_eq_true (List.all_eq_true.1 hsz _ (DataW.weights_mem_each (j := 0) (t := 22) rfl rfl n hn)))
  clear hA0 hval0
  refine (spoils_walk q0 L0 c0 z1 z2 W le0 m0 tx0 iz1 iz2).mono fun e W' ⟨he, hb⟩ => ⟨_, he, post_law rfl hW' rfl rfl ?_ hb⟩
  intro t ht
  rw [Try.params7] at ht
  simp only [List.mem_cons, List.not_mem_nil, or_false] at ht
  rcases ht with rfl | rfl | rfl <;> exact ⟨by kernel_rfl, of_decide_eq_true (by kernel_rfl)⟩

theorem storeSpoils_holds : Rows.StoreSpoilsSaid :=
  OpenClaim.holds_of_wide 7 Try.f7 rfl rfl rfl rfl rfl rfl rfl ⟨rfl, rfl, rfl, rfl, rfl⟩ rfl rfl rfl rfl rfl (by kernel_rfl) Try.func7 (by kernel_rfl)
    (of_decide_eq_true (by kernel_rfl)) (by unfold Func.isWrapper; rw [if_neg (of_decide_eq_false (by kernel_rfl))]; exact ⟨rfl, rfl⟩)
    (fun os started H enc _ => storeSpoils_lifted os started H enc)

#print axioms storeSpoils_holds

end Go.Proofs.Ytkeekefekajfnaa
