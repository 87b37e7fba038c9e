/- Any tables are a store, or refused; it tells each table, row and column as they were, whatever becomes of what was handed in, and of what it told: whatever the tables. Conditions: none. -/
import Derived.Test.YtkeekefekajfnaaStE
import Derived.Test.YtkeekefekajfnaaStO
import Derived.Test.YtkeekefekajfnaaSgI
import Derived.Test.YtkeekefekajfnaaSgK
import Derived.Deep.AppendLies
import Derived.Deep.DeepCutAuto
import Derived.Deep.CutBlock
import Derived.Deep.RegionLaw
namespace Go.Proofs.Ytkeekefekajfnaa
open Go.ChangeShapes Go.WideShapes Go.ChangeAt Go.RowKit Go.Joins
set_option maxRecDepth 100000

/-- A block of three cells, one of them written. -/
theorem tab_set5 {W : World} {tb k : Nat} {cs : Array Value} {u : Value} (h : W.heap[tb]? = some (.cells cs 30 (0, 0))) : (W.setCell ⟨tb, k, none⟩ u).heap[tb]? = some (.cells (cs.setIfInBounds k u) 30 (0, 0)) := by
  rw [setCell_eq_setRow W tb k _ _ _ _ h]
  exact setRow_heap W tb _ _ _ _ h
theorem one_block {W : World} {α : Type} {cells : α → List Value} {sz : Nat} (_ : ∀ x, (cells x).length = sz) (E : TypeId) (cs : Array Value) (x : α) (hx : cs.toList = cells x) (b : Nat) (hb : b = W.heap.size) :
    ArrA 0 (b + 1) (some ⟨b, 0, none⟩) sz [x] (fun g o r => ∀ (k : Nat) u, (cells r)[k]? = some u → (W.alloc (.cells cs E)).cell? ⟨g, o + k, none⟩ = some u) := fun j hj => ⟨b, 0, rfl, Nat.zero_le _, by omega, fun n r hr k u hk => by
  subst hb
  have hn : n = 0 := by have := (List.getElem?_eq_some_iff.1 hr).1; simp at this; omega
  subst hn
  simp only [List.getElem?_cons_zero, Option.some.injEq] at hr
  subst hr
  rw [Lib.cell_of_heap (heap_alloc_new W _)]
  rw [← hx] at hk
  simpa using hk⟩

theorem findT_tab {L : List Tab} (h : TabsP L) {i : Nat} {t : Tab} (ht : L[i]? = some t) : findT t.nm L = i := findT_at t.nm L i t ht rfl fun j u hj hu => (h.2 i t ht).2 j u hj hu
theorem manyT_tab {L : List Tab} {i : Nat} {t : Tab} (ht : L[i]? = some t) : manyT L i = (t.rows.length : Int) := by unfold manyT; rw [nth_nat, ht]
theorem colsT_tab {L : List Tab} {i : Nat} {t : Tab} (ht : L[i]? = some t) : colsT L i = t.cols := by unfold colsT; rw [nth_nat, ht]
theorem rowT_tab {L : List Tab} {i k : Nat} {t : Tab} {x : List Val} (ht : L[i]? = some t) (hx : t.rows[k]? = some x) : rowT L i k = some x := by unfold rowT; rw [nth_nat, ht]; exact (nth_nat _ _).trans hx
theorem rows_one {W : World} {b c n : Nat} {q : Option Addr} {x : List Val} {lo hi : Nat} (h0 : W.cell? ⟨b, 0, none⟩ = some (.slice q n c)) (hn : n = x.length) (h1 : n ≤ c) (h2 : c ≤ 9223372036854775807) (hb : b < W.heap.size) (hA : ValsA W lo hi q x) (hh : hi ≤ W.heap.size) : RowsA W 0 W.heap.size (some ⟨b, 0, none⟩) [x] := fun j hj => ⟨b, 0, rfl, Nat.zero_le _, hb, fun i y hy => by
  have hi0 : i = 0 := by have := (List.getElem?_eq_some_iff.1 hy).1; simp at this; omega
  subst hi0
  simp only [List.getElem?_cons_zero, Option.some.injEq] at hy
  subst hy
  subst hn
  exact ⟨q, c, h0, h1, h2, hA.wide (Nat.zero_le _) hh⟩⟩

set_option maxHeartbeats 16000000 in
theorem opens_walk (q : Option Addr) (L : List Tab) (c : Nat) (s : ByteArray) (x y : Int) (w : World) (hc : L.length ≤ c) (hc2 : c ≤ 9223372036854775807) (hT : TabsA w 0 w.heap.size q L) (hb : L.length * 64 ≤ 140737488351232) (hr : ∀ t ∈ L, t.cols.length * 24 ≤ 140737488351232 ∧ t.rows.length * 24 ≤ 140737488351232 ∧ ∀ r ∈ t.rows, r.length * 32 ≤ 140737488351232) (hx : inR x = true) (hy : inR y = true) :
    Calls Try.prog 4 #[.slice q L.length c, .string s, .int .i64 x, .int .i64 y] w fun e w' => e = .returned (.bool true) ∧ Below w.heap.size w w' := by
  have HT := Lib.hid hT
  have HR := Lib.hid hr
  clear hT hr
  go_enter Try.func4, Try.ntmps4
  go_wp2_with fail
  refine (ex5_any storeC _).mono ?_
  rintro e w1 ⟨rfl, hb1⟩
  have hs1 := hb1.size
  have E1 := Lib.hid hb1
  clear hb1
  go_upto_block 0 with fail
  go_cut [10, 11, 12, 13] (fun v _ _ _ wc => ∃ q2 c2, v = .slice q2 L.length c2 ∧ Hid (TabsOwn wc w.heap.size (.slice q2 L.length c2) L ∧ Below w.heap.size w wc))
  case first =>
    go_wp2_with fail
    go_loopw [11, 10] (fun vi vo wr => ∃ i : Nat, vi = .int .i64 i ∧ i ≤ L.length ∧ (∃ (q : Option Addr) (n k : Nat), vo = .slice q n k) ∧ Hid (TabsOwn wr w.heap.size vo (L.take i) ∧ Below w.heap.size w wr)) (fun vi _ _ => L.length - (intOf vi).toNat)
    case atStart => exact ⟨0, rfl, Nat.zero_le _, ⟨_, _, _, rfl⟩, ⟨[], OwnF.nil _ _ _, rfl, fun j r t h => by simp at h⟩, E1.out⟩
    case round =>
      obtain ⟨i, rfl, hi, ⟨qo, no, ko, rfl⟩, HH⟩ := hrel
      obtain ⟨V, hV⟩ : ∃ V, V = wr := ⟨_, rfl⟩
      subst hV
      have hsV := HH.out.2.size
      by_cases hlt : i < L.length
      · obtain ⟨g0, off0, rfl, hg1, hg2, hcA⟩ := HT.out i hlt
        obtain ⟨t, ht⟩ : ∃ t, t = L[i] := ⟨_, rfl⟩
        have hti : L[i]? = some t := by rw [ht]; exact List.getElem?_eq_getElem hlt
        have HTI := Lib.hid hti
        obtain ⟨⟨x0, a3⟩, ⟨p1, c1, x1, a4, a5, hC⟩, p2, c2, x2, a6, a7, hR⟩ := hcA i t hti
        have AA := Lib.hid (show ∀ W, Below w.heap.size w W → W.cell? ⟨g0, off0 + i * 3, none⟩ = some (.string t.nm) ∧ W.cell? ⟨g0, off0 + i * 3 + 1, none⟩ = some (.slice p1 t.cols.length c1) ∧ W.cell? ⟨g0, off0 + i * 3 + 2, none⟩ = some (.slice p2 t.rows.length c2) from fun W h =>
          ⟨(h.cell (p := ⟨g0, _, none⟩) hg2).trans x0, (h.cell (p := ⟨g0, _, none⟩) hg2).trans x1, (h.cell (p := ⟨g0, _, none⟩) hg2).trans x2⟩)
        have CR := Lib.hid (And.intro hC hR)
        have HRT := Lib.hid (HR.out t (List.mem_of_getElem? hti))
        have hrt1 := HRT.out.1
        have hrt2 := HRT.out.2.1
        clear ht hti hcA hC hR x0 x1 x2 a3
        go_upto_region 6 with fail
        go_cut [12] (fun v wc => ∃ tb r, v = .pointer (some ⟨tb, 0, none⟩) ∧ V.heap.size ≤ tb ∧ Hid (wc.heap[tb]? = some (.cells #[.string r.nm, .slice r.qc r.nc r.cc, .slice r.qr r.nr r.cr] 30 (0, 0)) ∧ TabOwn wc V.heap.size r ⟨t.nm, t.cols, []⟩ ∧ Below V.heap.size V wc))
        case first =>
          have KS := Lib.hid (show ∀ W, Below V.heap.size V W → W.cell? ⟨g0, off0 + i * 3, none⟩ = some (.string t.nm) ∧ W.cell? ⟨g0, off0 + i * 3 + 1, none⟩ = some (.slice p1 t.cols.length c1) from fun W h => by
            have := AA.out W (HH.out.2.trans (h.mono hsV))
            exact ⟨this.1, this.2.1⟩)
          have CA := Lib.hid (show ∀ W, Below V.heap.size V W → ArrA 0 w.heap.size p1 2 t.cols (fun g o x => ∀ (k : Nat) u, (colCell x)[k]? = some u → W.cell? ⟨g, o + k, none⟩ = some u) from fun W h => colsA_flat (CR.out.1.same (Same.of (HH.out.2.trans (h.mono hsV)) (Nat.le_refl _))))
          go_region_held3 (fun W => W.cell? ⟨g0, off0 + i * 3, none⟩ = some (.string t.nm) ∧ W.cell? ⟨g0, off0 + i * 3 + 1, none⟩ = some (.slice p1 t.cols.length c1)) ((refine KS.out _ ?_; (repeat (first | exact ext_refl _ | assumption | (refine ext_alloc ?_ _) | (refine ext_drewN ?_ _) | refine ext_drew ?_ | (refine ext_set (by first | (simp; done) | (simp; omega)) _ ?_) | (refine ext_trans ?_ (by assumption)))))) (first
            | (refine step_append_flat rfl _ _ 27 39 rfl Try.underlying27 _ 24 Try.infoCol5 rfl (by omega) colCell_len colCell_one V.heap.size (.slice none 0 0) [] rfl (OwnF.nil _ _ _) _ _ _ t.cols rfl rfl 0 w.heap.size (CA.out _ (by (repeat (first | exact ext_refl _ | assumption | (refine ext_alloc ?_ _) | (refine ext_drewN ?_ _) | refine ext_drew ?_ | (refine ext_set (by first | (simp; done) | (simp; omega)) _ ?_) | (refine ext_trans ?_ (by assumption)))))) (by unfold maxLen; simp; omega) (by simp; omega) (by first | exact Nat.le_refl _ | (simp; done) | (simp; omega)) ?_; intro qA cA wA OA bA oA hatA; have hVA : Below V.heap.size V wA := (show Below V.heap.size V _ from by (repeat (first | exact ext_refl _ | assumption | (refine ext_alloc ?_ _) | (refine ext_drewN ?_ _) | refine ext_drew ?_ | (refine ext_set (by first | (simp; done) | (simp; omega)) _ ?_) | (refine ext_trans ?_ (by assumption))))).trans bA; have OA := Lib.hid OA; have hsA : V.heap.size ≤ wA.heap.size := hVA.size; (try (have TZ : wA.heap[V.heap.size]? = some (.cells #[.string ⟨#[]⟩, .slice none 0 0, .slice none 0 0] 30 (0, 0)) := (oA.block V.heap.size (by simp) (fun e => by cases e)).trans (by have h := heap_alloc_new V.drew (.cells #[.string ⟨#[]⟩, .slice none 0 0, .slice none 0 0] 30); rwa [World.size_drew] at h); have cz0 : wA.cell? ⟨V.heap.size, 0, none⟩ = some (.string ⟨#[]⟩) := (by rw [Lib.cell_of_heap TZ]; rfl); have cz1 : wA.cell? ⟨V.heap.size, 1, none⟩ = some (.slice none 0 0) := (by rw [Lib.cell_of_heap TZ]; rfl); have cz2 : wA.cell? ⟨V.heap.size, 2, none⟩ = some (.slice none 0 0) := (by rw [Lib.cell_of_heap TZ]; rfl); have fz : ∀ o, wA.frozen? ⟨V.heap.size, o, none⟩ = false := (fun o => Lib.frozen_of_heap TZ o); have TZ := Lib.hid TZ)); clear bA oA hatA))
          all_goals go_wp2_with fail
          all_goals go_meet
          · exact ⟨wA.heap.size, ⟨t.nm, qA, t.cols.length, cA, none, 0, 0⟩, rfl, hsA, heap_alloc_new wA _, ⟨rfl, OA.out.later (ext_alloc (ext_refl wA) _), Own2.nil _ _ _ _ _ _ _ (OwnF.nil _ _ _)⟩, ext_alloc hVA _⟩
          · refine ⟨V.heap.size, ⟨t.nm, qA, t.cols.length, cA, none, 0, 0⟩, rfl, Nat.le_refl _, tab_set5 (tab_set5 (tab_set5 TZ.out)), ⟨rfl, ?_, Own2.nil _ _ _ _ _ _ _ (OwnF.nil _ _ _)⟩, ((hVA.setCell (p := ⟨V.heap.size, 0, none⟩) (Nat.le_refl _) _).setCell (p := ⟨V.heap.size, 1, none⟩) (Nat.le_refl _) _).setCell (p := ⟨V.heap.size, 2, none⟩) (Nat.le_refl _) _⟩
            exact OA.out.kept_ty (E' := 30) (S := fun k => k = V.heap.size) (((Out.set (S := fun k => k = V.heap.size) ⟨V.heap.size, 0, none⟩ _ rfl).trans (Out.set (S := fun k => k = V.heap.size) ⟨V.heap.size, 1, none⟩ _ rfl)).trans (Out.set (S := fun k => k = V.heap.size) ⟨V.heap.size, 2, none⟩ _ rfl)) (fun k hk => by rw [hk]; exact ⟨_, TZ.out⟩) (by decide)
        case rest =>
          obtain ⟨tb, r0, rfl, htb, H0⟩ := hcut
          go_wp2_with fail
          go_loopw [13] (fun vk wx => ∃ k : Nat, vk = .int .i64 k ∧ k ≤ t.rows.length ∧ Hid (∃ r : RawTab, wx.heap[tb]? = some (.cells #[.string r.nm, .slice r.qc r.nc r.cc, .slice r.qr r.nr r.cr] 30 (0, 0)) ∧ TabOwn wx V.heap.size r ⟨t.nm, t.cols, t.rows.take k⟩ ∧ Below V.heap.size V wx)) (fun vk _ => t.rows.length - (intOf vk).toNat)
          case atStart => exact ⟨0, rfl, Nat.zero_le _, r0, H0.out⟩
          case round =>
            clear H0
            obtain ⟨k, rfl, hk, HK⟩ := hrel
            obtain ⟨U, hU⟩ : ∃ U, U = wr := ⟨_, rfl⟩
            subst hU
            obtain ⟨r, hrT, hrO, hrB⟩ := HK.out
            have hsU := hrB.size
            have EU := Lib.hid (HH.out.2.trans (hrB.mono hsV))
            have u2 := (AA.out U EU.out).2.2
            have htbU : tb < U.heap.size := TyB.lt ⟨_, hrT⟩
            by_cases hkl : k < t.rows.length
            · obtain ⟨g2, off2, rfl, hg3, hg4, hcR⟩ := (CR.out.2.same (Same.of EU.out (Nat.le_refl _))) k hkl
              obtain ⟨xr, hxr⟩ : ∃ x, t.rows[k]? = some x := ⟨_, List.getElem?_eq_getElem hkl⟩
              obtain ⟨pk, ck, y0, y1, y2, y3⟩ := hcR k xr hxr
              rw [Nat.mul_one] at y0
              have hxl := HRT.out.2.2 xr (List.mem_of_getElem? hxr)
              have HXR := Lib.hid hxr
              have VS := Lib.hid (show ArrA 0 w.heap.size pk 3 xr (fun g o x => ∀ (k : Nat) u, (valCell x)[k]? = some u → U.drew.cell? ⟨g, o + k, none⟩ = some u) from valsA_flat y3)
              obtain ⟨K2, hK1, hK2, hK3⟩ := hrO.rows.outer
              have hKn : K2.length ≤ t.rows.length := by rw [hK2, List.length_take]; omega
              have hnr : r.nr = K2.length := by
                obtain ⟨q', c', e, _⟩ := hK1.arr rawCell_len
                simp only [Value.slice.injEq] at e
                exact e.2.1
              have HN := Lib.hid hnr
              have t2U : U.cell? ⟨tb, 2, none⟩ = some (.slice r.qr r.nr r.cr) := by rw [Lib.cell_of_heap hrT]; rfl
              have HU := Lib.hid (And.intro hrT (And.intro hrO.cols (And.intro hK1 (And.intro hK2 (And.intro hK3 (And.intro hrO.nm hrB))))))
              clear hcR hxr y3 hK1 hK2 hK3 hrT hrO hrB hnr HK
              go_wp2_with fail
              go_region_law (first
                | (refine step_append_flat rfl _ _ 31 37 rfl Try.underlying31 _ 32 Try.infoVal5 rfl (by omega) valCell_len valCell_one U.heap.size (.slice none 0 0) [] rfl (OwnF.nil _ _ _) _ _ _ xr rfl rfl 0 w.heap.size VS.out (by unfold maxLen; simp; omega) (by simp; omega) (by simp) ?_; intro qA cA wA OA bA oA hatA; have t2A : wA.cell? ⟨tb, 2, none⟩ = some (.slice r.qr r.nr r.cr) := (bA.cell (p := ⟨tb, 2, none⟩) htbU).trans t2U; have hsA : U.heap.size ≤ wA.heap.size := bA.size; have htbA : tb < wA.heap.size := (by omega); have OAh := Lib.hid (And.intro OA bA); have BZ : Below U.heap.size U (wA.alloc (.cells #[.slice qA xr.length cA] 31)) := (show Below U.heap.size U wA from ((Below.refl _ _).drew).trans bA).trans ((ext_alloc (ext_refl wA) _).mono hsA); have OO := Lib.hid (HU.out.2.2.1.later BZ); have HZ := Lib.hid BZ; have R1 := Lib.hid (one_block (W := wA) rawCell_len 31 #[.slice qA xr.length cA] ((qA, xr.length, cA) : Raw) rfl wA.heap.size rfl); clear OA bA oA hatA BZ)
                | (refine step_append_flat rfl _ _ 28 31 rfl Try.underlying28 _ 24 Try.infoRow5 rfl (by omega) rawCell_len rawCell_one V.heap.size (.slice r.qr r.nr r.cr) K2 rfl OO.out _ _ _ [((qA, xr.length, cA) : Raw)] rfl rfl 0 (wA.heap.size + 1) R1.out (by unfold maxLen; simp; omega) (by simp; omega) (by simp; omega) ?_; intro qB cB wB OB bB oB hatB; have hS : ∀ k, (Value.slice r.qr r.nr r.cr).ownBlock = some k → ∃ cur, (wA.alloc (.cells #[.slice qA xr.length cA] 31)).heap[k]? = some (.cells cur 31 (0, 0)) := OO.out.ty; have TB : wB.heap[tb]? = some (.cells #[.string r.nm, .slice r.qc r.nc r.cc, .slice r.qr r.nr r.cr] 30 (0, 0)) := (oB.block tb (by simp; omega) (fun e => by obtain ⟨cu, hcu⟩ := hS tb e; rw [HZ.out.block tb htbU, HU.out.1] at hcu; injection hcu with hcu; injection hcu with _ hcu; exact absurd hcu (by decide))).trans ((HZ.out.block tb htbU).trans HU.out.1); have t2B : wB.cell? ⟨tb, 2, none⟩ = some (.slice r.qr r.nr r.cr) := (by rw [Lib.cell_of_heap TB]; rfl); have fB : ∀ o, wB.frozen? ⟨tb, o, none⟩ = false := (fun o => Lib.frozen_of_heap TB o); have HB9 := Lib.hid (And.intro OB (And.intro bB (And.intro oB (And.intro TB hS)))); clear OB bB oB TB hS hatB))
              all_goals
                have hl : (K2 ++ [((qA, xr.length, cA) : Raw)]).length = K2.length + 1 := by simp
                have hn : OwnF (wA.alloc (.cells #[.slice qA xr.length cA] 31)) V.heap.size 37 3 valCell (.slice qA xr.length cA) xr := OwnF.base_le (OwnF.later OAh.out.1 (ext_alloc (ext_refl wA) _)) hsU
                have P := Own2.push (L := t.rows.take k) (l := xr) (by decide) OO.out HU.out.2.2.2.1 (fun j r l hr hl => ⟨(HU.out.2.2.2.2.1 j r l hr hl).1, (HU.out.2.2.2.2.1 j r l hr hl).2.later HZ.out⟩) hn rfl HB9.out.1 HB9.out.2.2.1
                have e3 : t.rows.take k ++ [xr] = t.rows.take (k + 1) := by rw [List.take_add_one, HXR.out]; rfl
                rw [e3, hl] at P
                have hSt : ∀ k, k = tb → ∃ cur, wB.heap[k]? = some (.cells cur 30 (0, 0)) := fun k hk => by rw [hk]; exact ⟨_, HB9.out.2.2.2.1⟩
                have os := Out.set (a := wB) (S := fun k => k = tb) ⟨tb, 2, none⟩ (.slice qB (K2.length + 1) cB) rfl
                have C9 := ((HU.out.2.1.later HZ.out).kept_ty HB9.out.2.2.1 HB9.out.2.2.2.2 (by decide)).kept_ty os hSt (by decide)
                have P9 := P.kept_ty os hSt (by decide) (by decide)
                have B9 : Below V.heap.size V (wB.setCell ⟨tb, 2, none⟩ (.slice qB (K2.length + 1) cB)) := ((HU.out.2.2.2.2.2.2.trans (HZ.out.mono hsU)).trans HB9.out.2.1).setCell (p := ⟨tb, 2, none⟩) htb _
                have FF := Lib.hid (show ∃ r : RawTab, (wB.setCell ⟨tb, 2, none⟩ (.slice qB (K2.length + 1) cB)).heap[tb]? = some (.cells #[.string r.nm, .slice r.qc r.nc r.cc, .slice r.qr r.nr r.cr] 30 (0, 0)) ∧ TabOwn (wB.setCell ⟨tb, 2, none⟩ (.slice qB (K2.length + 1) cB)) V.heap.size r ⟨t.nm, t.cols, t.rows.take (k + 1)⟩ ∧ Below V.heap.size V (wB.setCell ⟨tb, 2, none⟩ (.slice qB (K2.length + 1) cB)) from
                  ⟨⟨r.nm, r.qc, r.nc, r.cc, qB, K2.length + 1, cB⟩, tab_set5 HB9.out.2.2.2.1, ⟨HU.out.2.2.2.2.2.1, C9, P9⟩, B9⟩)
                clear P C9 P9 B9 os hSt hn e3 hl
                go_wp2_with fail
                go_roundw
              all_goals first | exact ⟨k + 1, by go_num, hkl, FF⟩ | (simp [intOf] <;> omega)
            · have hkr : k = t.rows.length := by omega
              subst hkr
              rw [List.take_length] at hrO
              have hrT' := hrT
              obtain ⟨K, hK1, hK2, hK3⟩ := HH.out.1.outer
              have e0 : U.cell? ⟨tb, 0, none⟩ = some (.string r.nm) := by rw [Lib.cell_of_heap hrT]; rfl
              have e1 : U.cell? ⟨tb, 1, none⟩ = some (.slice r.qc r.nc r.cc) := by rw [Lib.cell_of_heap hrT]; rfl
              have e2 : U.cell? ⟨tb, 2, none⟩ = some (.slice r.qr r.nr r.cr) := by rw [Lib.cell_of_heap hrT]; rfl
              have hbd : Below U.heap.size U (U.alloc (.cells #[.string r.nm, .slice r.qc r.nc r.cc, .slice r.qr r.nr r.cr] 30)) := ext_alloc (ext_refl U) _
              have hbV := hrB.trans (hbd.mono hsU)
              have OM := Lib.hid (show OwnF (U.alloc (.cells #[.string r.nm, .slice r.qc r.nc r.cc, .slice r.qr r.nr r.cr] 30)) w.heap.size 30 3 tabCell (.slice qo no ko) K from hK1.later hbV)
              have R1 := Lib.hid (one_block (W := U) tabCell_len 30 #[.string r.nm, .slice r.qc r.nc r.cc, .slice r.qr r.nr r.cr] r rfl U.heap.size rfl)
              have HM := Lib.hid (show K.length = (L.take i).length ∧ (∀ (j : Nat) (r : RawTab) (u : Tab), K[j]? = some r → (L.take i)[j]? = some u → TabOwn (U.alloc (.cells #[.string r0.nm, .slice r0.qc r0.nc r0.cc, .slice r0.qr r0.nr r0.cr] 30)) w.heap.size r u) ∧ True from ⟨hK2, fun j r u hr hu => (hK3 j r u hr hu).later (hrB.trans ((ext_alloc (ext_refl U) _).mono hsU)), trivial⟩)
              have HN := Lib.hid (show (∀ (j : Nat) (r' : RawTab) (u : Tab), K[j]? = some r' → (L.take i)[j]? = some u → TabOwn (U.alloc (.cells #[.string r.nm, .slice r.qc r.nc r.cc, .slice r.qr r.nr r.cr] 30)) w.heap.size r' u) ∧ TabOwn (U.alloc (.cells #[.string r.nm, .slice r.qc r.nc r.cc, .slice r.qr r.nr r.cr] 30)) w.heap.size r t ∧ Below w.heap.size w (U.alloc (.cells #[.string r.nm, .slice r.qc r.nc r.cc, .slice r.qr r.nr r.cr] 30)) from
                ⟨fun j r' u hr hu => (hK3 j r' u hr hu).later hbV, ⟨hrO.nm, (hrO.cols.later hbd).base_le hsV, (hrO.rows.later hbd).base_le hsV⟩, HH.out.2.trans (hbV.mono hsV)⟩)
              have hKn : K.length ≤ i := by rw [hK2, List.length_take]; omega
              clear hK1 hK2 hK3 hrO hrT hrT' hrB hbd hbV HK
              go_wp2_with (at_builtin; refine wp_append_flat rfl _ _ 22 30 rfl Try.underlying22 _ 64 Try.infoTab5 rfl (by omega) tabCell_len tabCell_one w.heap.size _ K rfl OM.out _ _ _ [r] rfl rfl 0 (U.heap.size + 1) R1.out ?l1 ?l2 (by simp; omega) ?_)
              case l1 => unfold maxLen; simp; omega
              case l2 => simp; omega
              intro vB wB OB bB oB
              obtain ⟨qB, cB, rfl, -, -, -, -⟩ := OB.arr tabCell_len
              have P := TabsOwn.push (l := L.take i) (t := t) OM.out HM.out.1 HN.out.1 HN.out.2.1 OB oB
              have e3 : L.take i ++ [t] = L.take (i + 1) := by rw [List.take_add_one, HTI.out]; rfl
              rw [e3] at P
              have FF := Lib.hid (And.intro P (HN.out.2.2.trans bB))
              clear P e3 OB bB oB e0 e1 e2
              go_wp2_with fail
              go_roundw
              case rel => exact ⟨i + 1, by go_num, hlt, ⟨_, _, _, rfl⟩, FF.out⟩
              case measure => simp [intOf] <;> omega
      · have hil : i = L.length := by omega
        have HF := HH.out
        rw [hil, List.take_length] at HF
        obtain ⟨K, hK1, hK2, -⟩ := HF.1.outer
        obtain ⟨q', c', e, -⟩ := hK1.arr tabCell_len
        rw [hK2] at e
        simp only [Value.slice.injEq] at e
        obtain ⟨rfl, rfl, rfl⟩ := e
        have HF := Lib.hid HF
        clear hK1 hK2 HH
        go_wp2_with fail
        go_meet
        exact ⟨_, _, rfl, HF⟩
  case rest =>
    obtain ⟨q2, c2, rfl, H2⟩ := hcut
    obtain ⟨-, k1, k2, k3⟩ := H2.out.1.tabs HT.out.names
    have OP := Lib.hid (storeC.open_ L q2 c2 w.heap.size wc.heap.size wc k1 k2 k3 (Nat.le_refl _))
    have TW := Lib.hid H2.out.1.weak
    have EC := Lib.hid H2.out.2
    obtain ⟨H, hH⟩ : ∃ H, H = wc.heap.size := ⟨_, rfl⟩
    have hHw : w.heap.size ≤ H := by rw [hH]; exact EC.out.size
    have TW : Hid (TabsW wc w.heap.size H q2 L) := by rw [hH]; exact TW
    have HH0 := Lib.hid hH
    clear k3 H2 hH
    go_wp2_with fail
    refine (OP.out).mono ?_
    rintro e w3 ⟨hB3, ⟨hP, p, S, rfl, hSt, hSl⟩ | ⟨hP, rfl⟩⟩
    · have hs3 := hB3.size
      have B3 := Lib.hid hB3
      have ST := Lib.hid (And.intro hSt hSl)
      have HP := Lib.hid hP
      clear hB3 hSt hSl hP
      go_wp2_with fail
      refine (rright5_any L q c 0 w.heap.size w3 hc hc2 (HT.out.same (Same.of (EC.out.trans (B3.out.mono EC.out.size)) (Nat.le_refl _))) (Nat.le_trans EC.out.size hs3)).mono ?_
      rintro e w4 ⟨ht, hB4⟩
      obtain rfl := ht.yes_of HP.out
      have H4 := Lib.hid (show TabsW w4 w.heap.size H q2 L ∧ StP w4 S p L (fun _ => none) 0 ∧ Below w.heap.size w w4 from
        ⟨TW.out.keep (fun g hg => ((B3.out.trans (hB4.mono hs3)).block g hg)), ST.out.1.keep (Out.of (S := fun _ => False) hB4) (fun _ h => h.elim), (EC.out.trans (B3.out.mono EC.out.size)).trans (hB4.mono (Nat.le_trans EC.out.size hs3))⟩)
      have HS := Lib.hid (show ∀ k, S k → H ≤ k from fun k hk => by rw [HH0.out]; exact ST.out.2 k hk)
      have hs4 := hB4.size
      clear ht hB4 TW ST OP B3
      go_upto_block 4 with fail
      go_cut [17, 18] (fun _ _ wd => Hid (StP wd S p L (fun _ => none) 0 ∧ Below w.heap.size w wd))
      case first =>
        go_wp2_with fail
        go_loopw [17] (fun vi wr => ∃ i : Nat, vi = .int .i64 i ∧ i ≤ L.length ∧ Hid (TabsW wr w.heap.size H q2 L ∧ StP wr S p L (fun _ => none) 0 ∧ Below w.heap.size w wr)) (fun vi _ => L.length - (intOf vi).toNat)
        case atStart => exact ⟨0, rfl, Nat.zero_le _, H4.out⟩
        case round =>
          clear H4
          obtain ⟨i, rfl, hi, HH⟩ := hrel
          obtain ⟨V, hV⟩ : ∃ V, V = wr := ⟨_, rfl⟩
          subst hV
          by_cases hlt : i < L.length
          · obtain ⟨g, rfl, hg1, hg2, hcT⟩ := HH.out.1 i hlt
            obtain ⟨t, ht⟩ : ∃ t, L[i]? = some t := ⟨_, List.getElem?_eq_getElem hlt⟩
            have hTP := (HP.out.2 i t ht).1
            obtain ⟨hty, ⟨s0, n0⟩, -, -⟩ := hcT i t ht
            have f0 := hty.frozen
            have HTI := Lib.hid ht
            have HTP := Lib.hid hTP
            have l20 := hTP.2.2.1
            have l6 := hTP.2.1
            have H1 := Lib.hid (show TabsW (V.setCell ⟨g, i * 3, none⟩ (.string ⟨#[63]⟩)) w.heap.size H (some ⟨g, 0, none⟩) L ∧ StP (V.setCell ⟨g, i * 3, none⟩ (.string ⟨#[63]⟩)) S p L (fun _ => none) 0 ∧ Below w.heap.size w (V.setCell ⟨g, i * 3, none⟩ (.string ⟨#[63]⟩)) from
              ⟨HH.out.1.setName hty, HH.out.2.1.keep (Out.set (S := fun k => k = g) _ _ rfl) (fun k hk hs => by have := HS.out k hs; omega), HH.out.2.2.setCell (p := ⟨g, i * 3, none⟩) hg1 _⟩)
            clear hcT ht hTP hty HH
            go_wp2_with fail
            obtain ⟨V1, hV1⟩ : ∃ W, W = V.setCell ⟨g, i * 3, none⟩ (.string ⟨#[63]⟩) := ⟨_, rfl⟩
            rw [← hV1] at H1 ⊢
            clear hV1 n0 f0
            go_loopw [18] (fun vk wx => ∃ k : Nat, vk = .int .i64 k ∧ k ≤ t.rows.length ∧ Hid (TabsW wx w.heap.size H (some ⟨g, 0, none⟩) L ∧ StP wx S p L (fun _ => none) 0 ∧ Below w.heap.size w wx)) (fun vk _ => t.rows.length - (intOf vk).toNat)
            case atStart => exact ⟨0, rfl, Nat.zero_le _, H1.out⟩
            case round =>
              clear H1
              obtain ⟨k, rfl, hk, HK⟩ := hrel
              obtain ⟨U, hU⟩ : ∃ U, U = wr := ⟨_, rfl⟩
              subst hU
              obtain ⟨g', hgg, -, -, hcT⟩ := HK.out.1 i hlt
              obtain rfl : g = g' := by simpa using hgg
              obtain ⟨hty, -, ⟨pC, cC, b1, b2, b3⟩, pR, cR, d1, d2, d3⟩ := hcT i t HTI.out
              clear hcT hgg
              by_cases hkl : k < t.rows.length
              · obtain ⟨xr, hxr⟩ : ∃ x, t.rows[k]? = some x := ⟨_, List.getElem?_eq_getElem hkl⟩
                have hx1 : 0 < xr.length := by have h1 := (HTP.out.2.2.2.2 k xr hxr).1; have h2 := HTP.out.2.1.1; omega
                obtain ⟨gr, rfl, -, -, hcR⟩ := d3 k hkl
                obtain ⟨-, pv, cv, y0, y1, y2⟩ := hcR k xr hxr
                rw [Nat.mul_one] at y0
                obtain ⟨gv, rfl, hv1, hv2, hcV⟩ := y2 0 hx1
                obtain ⟨v0, hv0⟩ : ∃ v, xr[0]? = some v := ⟨_, List.getElem?_eq_getElem hx1⟩
                obtain ⟨tyv, yv, z0, z1, z2⟩ := hcV 0 v0 hv0
                have fv := tyv.frozen
                have e0 : U.cell? ⟨gv, 0, none⟩ = some (.int .i64 yv.k) := z0
                have e1 : U.cell? ⟨gv, 1, none⟩ = some (.int .i64 yv.n) := z1
                have e2 : U.cell? ⟨gv, 2, none⟩ = some (.string yv.s) := z2
                have H2 := Lib.hid (show TabsW (((U.setCell ⟨gv, 0, none⟩ (.int .i64 7)).setCell ⟨gv, 1, none⟩ (.int .i64 0)).setCell ⟨gv, 2, none⟩ (.string ⟨#[]⟩)) w.heap.size H (some ⟨g, 0, none⟩) L ∧ StP (((U.setCell ⟨gv, 0, none⟩ (.int .i64 7)).setCell ⟨gv, 1, none⟩ (.int .i64 0)).setCell ⟨gv, 2, none⟩ (.string ⟨#[]⟩)) S p L (fun _ => none) 0 ∧ Below w.heap.size w (((U.setCell ⟨gv, 0, none⟩ (.int .i64 7)).setCell ⟨gv, 1, none⟩ (.int .i64 0)).setCell ⟨gv, 2, none⟩ (.string ⟨#[]⟩)) from
                  ⟨HK.out.1.setVal tyv, HK.out.2.1.keep (((Out.set (S := fun k => k = gv) ⟨gv, 0, none⟩ _ rfl).trans (Out.set (S := fun k => k = gv) ⟨gv, 1, none⟩ _ rfl)).trans (Out.set (S := fun k => k = gv) ⟨gv, 2, none⟩ _ rfl)) (fun k hk hs => by have := HS.out k hs; omega),
                    ((HK.out.2.2.setCell (p := ⟨gv, 0, none⟩) hv1 _).setCell (p := ⟨gv, 1, none⟩) hv1 _).setCell (p := ⟨gv, 2, none⟩) hv1 _⟩)
                have hxi : (0 : Int) < (xr.length : Int) := by omega
                clear hxr hcR y2 hcV hv0 tyv z0 z1 z2 b3 d3 hty HK
                go_wp2_with fail
                go_roundw
                case rel => exact ⟨k + 1, by go_num, hkl, H2.out⟩
                case measure => simp [intOf] <;> omega
              · have hc1 : 0 < t.cols.length := HTP.out.2.1.1
                obtain ⟨gc, rfl, hv1, hv2, hcC⟩ := b3 0 hc1
                obtain ⟨v0, hv0⟩ : ∃ v, t.cols[0]? = some v := ⟨_, List.getElem?_eq_getElem hc1⟩
                obtain ⟨tyc, -, z0, hz⟩ := hcC 0 v0 hv0
                have fv := tyc.frozen
                have e1 : U.cell? ⟨gc, 1, none⟩ = some (.int .i64 z0) := hz
                have H2 := Lib.hid (show TabsW (U.setCell ⟨gc, 1, none⟩ (.int .i64 7)) w.heap.size H (some ⟨g, 0, none⟩) L ∧ StP (U.setCell ⟨gc, 1, none⟩ (.int .i64 7)) S p L (fun _ => none) 0 ∧ Below w.heap.size w (U.setCell ⟨gc, 1, none⟩ (.int .i64 7)) from
                  ⟨HK.out.1.setKind tyc, HK.out.2.1.keep (Out.set (S := fun k => k = gc) ⟨gc, 1, none⟩ _ rfl) (fun k hk hs => by have := HS.out k hs; omega), HK.out.2.2.setCell (p := ⟨gc, 1, none⟩) hv1 _⟩)
                have hxi : (0 : Int) < (t.cols.length : Int) := by omega
                clear hcC hv0 tyc hz b3 d3 hty HK
                go_wp2_with fail
                go_roundw
                case rel => exact ⟨i + 1, by go_num, hlt, H2.out⟩
                case measure => simp [intOf] <;> omega
          · go_wp2_with fail
            go_meet
            exact HH.out.2
      case rest =>
        clear H4
        obtain ⟨W5, hW5⟩ : ∃ W, W = wc := ⟨_, rfl⟩
        subst hW5
        have D0 := hcut
        clear hcut
        go_upto_block 8 with fail
        go_cut [19, 20, 21, 22, 23, 24, 25, 26] (fun _ _ _ _ _ _ _ _ wd => Hid (StP wd S p L (fun _ => none) 0 ∧ Below w.heap.size w wd))
        case first =>
          go_wp2_with fail
          go_loopw [19] (fun vi wr => ∃ i : Nat, vi = .int .i64 i ∧ i ≤ 2 ∧ Hid (StP wr S p L (fun _ => none) 0 ∧ Below w.heap.size w wr)) (fun vi _ => 2 - (intOf vi).toNat)
          case atStart => exact ⟨0, rfl, by omega, D0.out⟩
          case round =>
            clear D0
            obtain ⟨m, rfl, hm, HM⟩ := hrel
            by_cases hm2 : m < 2
            · have hmD : decide ((m : Int) < 2) = true := decide_eq_true (by omega)
              go_wp2_with fail
              go_loopw [20] (fun vi wx => ∃ i : Nat, vi = .int .i64 i ∧ i ≤ L.length ∧ Hid (StP wx S p L (fun _ => none) 0 ∧ Below w.heap.size w wx)) (fun vi _ => L.length - (intOf vi).toNat)
              case atStart => exact ⟨0, rfl, Nat.zero_le _, HM.out⟩
              case round =>
                clear HM
                obtain ⟨i, rfl, hi, HH⟩ := hrel
                obtain ⟨V, hV⟩ : ∃ V, V = wr := ⟨_, rfl⟩
                subst hV
                have hsV := HH.out.2.size
                by_cases hlt : i < L.length
                · obtain ⟨g0, off0, rfl, hg1, hg2, hcA⟩ := HT.out i hlt
                  obtain ⟨t, ht⟩ : ∃ t, L[i]? = some t := ⟨_, List.getElem?_eq_getElem hlt⟩
                  obtain ⟨⟨x0, a3⟩, ⟨p1, c1, x1, a4, a5, hC⟩, p2, c2', x2, a6, a7, hR⟩ := hcA i t ht
                  have AA := Lib.hid (show ∀ W, Below w.heap.size w W → W.cell? ⟨g0, off0 + i * 3, none⟩ = some (.string t.nm) ∧ W.cell? ⟨g0, off0 + i * 3 + 1, none⟩ = some (.slice p1 t.cols.length c1) ∧ W.cell? ⟨g0, off0 + i * 3 + 2, none⟩ = some (.slice p2 t.rows.length c2') from fun W h =>
                    ⟨(h.cell (p := ⟨g0, _, none⟩) hg2).trans x0, (h.cell (p := ⟨g0, _, none⟩) hg2).trans x1, (h.cell (p := ⟨g0, _, none⟩) hg2).trans x2⟩)
                  have CR := Lib.hid (And.intro hC hR)
                  have hTP := (HP.out.2 i t ht).1
                  have HTP := Lib.hid hTP
                  have l20 := hTP.2.2.1
                  have l6 := hTP.2.1
                  have HTI := Lib.hid ht
                  obtain ⟨a0, a1, a2⟩ := AA.out V HH.out.2
                  have d0 := fun (z : After V) => (z.cell g0 (off0 + i * 3) (by omega)).trans a0
                  have d2 := fun (z : After V) => (z.cell g0 (off0 + i * 3 + 2) (by omega)).trans a2
                  have FN := Lib.hid (show ∀ W, Below V.heap.size V W → Calls Try.prog 14 #[.pointer (some ⟨p, 0, none⟩), .string t.nm] W fun e w' => e = .returned (.int .i64 (i : Int)) ∧ Below W.heap.size W w' from fun W hb => by
                    have h := storeC.find W S p L (fun _ => none) 0 t.nm (HH.out.1.keep (Out.of (S := fun _ => False) hb) (fun _ h => h.elim))
                    rwa [findT_tab HP.out HTI.out] at h)
                  have MN := Lib.hid (show ∀ W, Below V.heap.size V W → Calls Try.prog 15 #[.pointer (some ⟨p, 0, none⟩), .int .i64 (i : Int)] W fun e w' => e = .returned (.int .i64 (t.rows.length : Int)) ∧ Below W.heap.size W w' from fun W hb => by
                    have h := storeC.many W S p L (fun _ => none) 0 (i : Int) (HH.out.1.keep (Out.of (S := fun _ => False) hb) (fun _ h => h.elim)) (decide_eq_true (by omega))
                    rwa [manyT_tab HTI.out] at h)
                  have is := After.some V
                  clear ht hcA hC hR x0 x1 x2 a3 hTP
                  go_wp2_with fail
                  refine wp_region_after (by kernel_rfl) (by kernel_rfl) ?_
                  repeat (quiet_step ((first | (go_at_call 14; exact calls_after (FN.out _ (After.below _))) | (go_at_call 15; exact calls_after (MN.out _ (After.below _))))))
                  refine wpQuiet_nil ?_
                  intro W1 hw
                  obtain ⟨⟨_, hb1⟩, rfl⟩ := hw
                  have H1 := Lib.hid (show StP W1 S p L (fun _ => none) 0 ∧ Below w.heap.size w W1 from ⟨HH.out.1.keep (Out.of (S := fun _ => False) hb1) (fun _ h => h.elim), HH.out.2.trans (hb1.mono hsV)⟩)
                  have hs1' := hb1.size
                  have CO := Lib.hid (storeC.cols W1 S p L (fun _ => none) 0 (i : Int) H1.out.1 (decide_eq_true (by omega)))
                  rw [colsT_tab HTI.out] at CO
                  clear is d0 d2 hb1 a0 a1 a2 FN MN HH
                  go_wp2_with fail
                  refine (CO.out).mono ?_
                  rintro e W2 ⟨⟨q5, c5, rfl, OC⟩, hb2⟩
                  obtain ⟨g5, off5, rfl, hg5, hg5b, hcc⟩ := OC.arr 0 (by omega)
                  have hf5 := OC.free (by omega) g5 off5 rfl
                  have hc5 := OC.le
                  have hc5' := OC.le2
                  have H2 := Lib.hid (show (∀ (j : Nat) (d : Col), 0 ≤ j → t.cols[j]? = some d → colC W2 g5 (off5 + j * 2) d) ∧ (∀ o, W2.frozen? ⟨g5, o, none⟩ = false) ∧ StP W2 S p L (fun _ => none) 0 ∧ Below w.heap.size w W2 from
                    ⟨fun j d _ hd => hcc j d hd, hf5, H1.out.1.keep (Out.of (S := fun _ => False) hb2) (fun _ h => h.elim), H1.out.2.trans (hb2.mono (Nat.le_trans hsV hs1'))⟩)
                  have HLOW := Lib.hid (show ∀ k, S k → k < W1.heap.size from H1.out.1.low)
                  have a1 := (AA.out W2 H2.out.2.2.2).2.1
                  have hw1 : w.heap.size ≤ W1.heap.size := H1.out.2.size
                  clear OC hcc hf5 hb2 CO H1
                  go_wp2_with fail
                  go_loopw [22] (fun vk wx => ∃ k : Nat, vk = .int .i64 k ∧ k ≤ t.cols.length ∧ Hid ((∀ (j : Nat) (d : Col), k ≤ j → t.cols[j]? = some d → colC wx g5 (off5 + j * 2) d) ∧ (∀ o, wx.frozen? ⟨g5, o, none⟩ = false) ∧ StP wx S p L (fun _ => none) 0 ∧ Below w.heap.size w wx)) (fun vk _ => t.cols.length - (intOf vk).toNat)
                  case atStart => exact ⟨0, rfl, Nat.zero_le _, H2.out⟩
                  case round =>
                    clear H2 a1
                    obtain ⟨k, rfl, hk, HK⟩ := hrel
                    obtain ⟨U, hU⟩ : ∃ U, U = wr := ⟨_, rfl⟩
                    subst hU
                    have hsU := HK.out.2.2.2.size
                    by_cases hkl : k < t.cols.length
                    · obtain ⟨cd, hcd⟩ : ∃ x, t.cols[k]? = some x := ⟨_, List.getElem?_eq_getElem hkl⟩
                      have a1 := (AA.out U HK.out.2.2.2).2.1
                      obtain ⟨gc, offc, rfl, hgc1, hgc2, hcC⟩ := (CR.out.1.same (Same.of HK.out.2.2.2 (Nat.le_refl _))) k hkl
                      obtain ⟨⟨y0, y1⟩, -⟩ := hcC k cd hcd
                      obtain ⟨⟨z0, z1⟩, -⟩ := HK.out.1 k cd (Nat.le_refl _) hcd
                      have f5 := HK.out.2.1
                      clear hcC hcd
                      go_wp2_with fail
                      go_big_quiet (fail)
                      have bq := ext_drewN (ext_refl U) nq
                      have HQ := Lib.hid (show ∀ (nq : Nat), (∀ (j : Nat) (d : Col), k + 1 ≤ j → t.cols[j]? = some d → colC (((U.drewN nq).setCell ⟨g5, off5 + k * 2, none⟩ (.string ⟨#[]⟩)).setCell ⟨g5, off5 + k * 2 + 1, none⟩ (.int .i64 0)) g5 (off5 + j * 2) d) ∧ (∀ o, (((U.drewN nq).setCell ⟨g5, off5 + k * 2, none⟩ (.string ⟨#[]⟩)).setCell ⟨g5, off5 + k * 2 + 1, none⟩ (.int .i64 0)).frozen? ⟨g5, o, none⟩ = false) ∧
                          StP (((U.drewN nq).setCell ⟨g5, off5 + k * 2, none⟩ (.string ⟨#[]⟩)).setCell ⟨g5, off5 + k * 2 + 1, none⟩ (.int .i64 0)) S p L (fun _ => none) 0 ∧ Below w.heap.size w (((U.drewN nq).setCell ⟨g5, off5 + k * 2, none⟩ (.string ⟨#[]⟩)).setCell ⟨g5, off5 + k * 2 + 1, none⟩ (.int .i64 0)) from fun nq => by
                        have bd := ext_drewN (ext_refl U) nq
                        refine ⟨fun j d hj hd => ?_, fun o => ?_, ?_, ?_⟩
                        · obtain ⟨⟨r0, r1⟩, r2⟩ := HK.out.1 j d (by omega) hd
                          refine ⟨⟨?_, ?_⟩, r2⟩
                          · exact (World.cell?_setCell_other _ _ _ _ (fun e => by injection e with _ e; omega)).trans ((World.cell?_setCell_other _ _ _ _ (fun e => by injection e with _ e; omega)).trans r0)
                          · exact (World.cell?_setCell_other _ _ _ _ (fun e => by injection e with _ e; omega)).trans ((World.cell?_setCell_other _ _ _ _ (fun e => by injection e with _ e; omega)).trans r1)
                        · rw [World.frozen?_setCell, World.frozen?_setCell]; exact HK.out.2.1 o
                        · exact (HK.out.2.2.1.keep (Out.of (S := fun _ => False) bd) (fun _ h => h.elim)).keep ((Out.set (S := fun k => k = g5) ⟨g5, off5 + k * 2, none⟩ _ rfl).trans (Out.set (S := fun k => k = g5) ⟨g5, off5 + k * 2 + 1, none⟩ _ rfl)) (fun k hk hs => by have := HLOW.out k hs; omega)
                        · exact ((HK.out.2.2.2.trans (bd.mono hsU)).setCell (p := ⟨g5, off5 + k * 2, none⟩) (by show w.heap.size ≤ g5; omega) _).setCell (p := ⟨g5, off5 + k * 2 + 1, none⟩) (by show w.heap.size ≤ g5; omega) _)
                      go_wp2_with fail
                      go_roundw
                      case rel => exact ⟨k + 1, by go_num, hkl, HQ.out nq⟩
                      case measure => simp [intOf] <;> omega
                    · have HK2 := Lib.hid (And.intro HK.out.2.2.1 HK.out.2.2.2)
                      clear HK
                      go_wp2_with fail
                      go_loopw [23] (fun vk wx => ∃ k : Nat, vk = .int .i64 k ∧ k ≤ t.rows.length ∧ Hid (StP wx S p L (fun _ => none) 0 ∧ Below w.heap.size w wx)) (fun vk _ => t.rows.length - (intOf vk).toNat)
                      case atStart => exact ⟨0, rfl, Nat.zero_le _, HK2.out⟩
                      case round =>
                        clear HK2
                        obtain ⟨n, rfl, hn, HN⟩ := hrel
                        obtain ⟨X, hX⟩ : ∃ X, X = wr := ⟨_, rfl⟩
                        subst hX
                        have hsX := HN.out.2.size
                        have a2 := (AA.out X HN.out.2).2.2
                        by_cases hnl : n < t.rows.length
                        · obtain ⟨xr, hxr⟩ : ∃ x, t.rows[n]? = some x := ⟨_, List.getElem?_eq_getElem hnl⟩
                          have hxl := (HTP.out.2.2.2.2 n xr hxr).1
                          have hx1 : 0 < xr.length ∧ xr.length ≤ 6 := by omega
                          have RO := Lib.hid (show Calls Try.prog 17 #[.pointer (some ⟨p, 0, none⟩), .int .i64 (i : Int), .int .i64 (n : Int)] X fun e w' => (∃ q c, e = .returned (.tuple #[.slice q xr.length c, .bool true]) ∧ OwnVals w' X.heap.size q c xr) ∧ Below X.heap.size X w' from by
                            have h := storeC.row X S p L (fun _ => none) 0 (i : Int) (n : Int) HN.out.1 (decide_eq_true (by omega)) (decide_eq_true (by omega))
                            rw [rowT_tab HTI.out hxr] at h
                            exact h)
                          have HXR := Lib.hid hxr
                          clear hxr hxl
                          go_wp2_with fail
                          refine (RO.out).mono ?_
                          rintro e X2 ⟨⟨q6, c6, rfl, OV⟩, hb2⟩
                          obtain ⟨g6, off6, rfl, h6a, h6b, hv6⟩ := OV.arr 0 hx1.1
                          have hf6 := OV.free hx1.1 g6 off6 rfl
                          obtain ⟨v0, hv0⟩ : ∃ v, xr[0]? = some v := ⟨_, List.getElem?_eq_getElem hx1.1⟩
                          have hv00 := hv6 0 v0 hv0
                          rw [Nat.zero_mul, Nat.add_zero] at hv00
                          have E2' := Lib.hid (show StP X2 S p L (fun _ => none) 0 ∧ Below w.heap.size w X2 from ⟨HN.out.1.keep (Out.of (S := fun _ => False) hb2) (fun _ h => h.elim), HN.out.2.trans (hb2.mono hsX)⟩)
                          have a2' := (AA.out X2 E2'.out.2).2.2
                          obtain ⟨g7, off7, rfl, hg7, hg7b, hc7⟩ := (CR.out.2.same (Same.of E2'.out.2 (Nat.le_refl _))) n hnl
                          obtain ⟨p7, c7, e0, e1, e2, e3⟩ := hc7 n xr HXR.out
                          rw [Nat.mul_one] at e0
                          have hsX2 := hb2.size
                          have hLOW := Lib.hid (show ∀ k, S k → k < X.heap.size from HN.out.1.low)
                          obtain ⟨XX, hXX⟩ : ∃ W, W = (X2.alloc (.cells #[.slice (some ⟨g6, off6, none⟩) xr.length c6] 31)).alloc (.cells #[.slice p7 xr.length c7] 31) := ⟨_, rfl⟩
                          have hXs : XX.heap.size = X2.heap.size + 1 + 1 := by rw [hXX]; simp
                          have bX : Below X2.heap.size X2 XX := by rw [hXX]; exact ((Below.refl _ _).alloc (Nat.le_refl _) _).alloc (by simp) _
                          have t1 : XX.cell? ⟨X2.heap.size, 0, none⟩ = some (.slice (some ⟨g6, off6, none⟩) xr.length c6) := by
                            rw [hXX, Lib.cell_of_heap ((Lib.alloc_old (X2.alloc (.cells #[.slice (some ⟨g6, off6, none⟩) xr.length c6] 31)) (.cells #[.slice p7 xr.length c7] 31) X2.heap.size (by simp)).trans (heap_alloc_new X2 _))]
                            rfl
                          have t2 : XX.cell? ⟨X2.heap.size + 1, 0, none⟩ = some (.slice p7 xr.length c7) := by
                            have h := heap_alloc_new (X2.alloc (.cells #[.slice (some ⟨g6, off6, none⟩) xr.length c6] 31)) (.cells #[.slice p7 xr.length c7] 31)
                            rw [World.size_alloc] at h
                            rw [hXX, Lib.cell_of_heap h]
                            rfl
                          have RC := Lib.hid (rows5_any [xr] (some ⟨X2.heap.size, 0, none⟩) (some ⟨X2.heap.size + 1, 0, none⟩) 1 1 0 XX.heap.size 0 XX.heap.size XX (Nat.le_refl _) (by omega) (Nat.le_refl _) (by omega)
                            (rows_one t1 rfl OV.le OV.le2 (by omega) (OV.arr.same (Same.of bX (Nat.le_refl _))) (by omega)) (rows_one t2 rfl e1 e2 (by omega) (e3.same (Same.of bX (by have := E2'.out.2.size; omega))) (by have := E2'.out.2.size; omega)) (Nat.le_refl _) (Nat.le_refl _))
                          have BX := Lib.hid bX
                          have hv3 := Lib.hid (And.intro hv00 hf6)
                          have hX2s : X2.heap.size ≤ XX.heap.size := by omega
                          have hgX : g0 < X2.heap.size := by have := E2'.out.2.size; omega
                          have hgX7 : g7 < X2.heap.size := by have := E2'.out.2.size; omega
                          clear OV hv6 hf6 hv0 hv00 hb2 e3 hc7 hXs bX t1 t2 RO a2
                          go_wp2_with fail
                          rw [← hXX]
                          clear hXX
                          refine (RC.out).mono ?_
                          rintro e X3 ⟨rfl, hb3⟩
                          have B3 := Lib.hid (show Below X2.heap.size X2 X3 from BX.out.trans (hb3.mono hX2s))
                          have s0 := (B3.out.cell (p := ⟨g6, off6, none⟩) h6b).trans hv3.out.1.1
                          have s1 := (B3.out.cell (p := ⟨g6, off6 + 1, none⟩) h6b).trans hv3.out.1.2.1
                          have s2 := (B3.out.cell (p := ⟨g6, off6 + 2, none⟩) h6b).trans hv3.out.1.2.2
                          have f6 : ∀ o, X3.frozen? ⟨g6, o, none⟩ = false := fun o => (B3.out.frozen (p := ⟨g6, o, none⟩) h6b).trans (hv3.out.2 o)
                          have HF := Lib.hid (show StP (((X3.setCell ⟨g6, off6, none⟩ (.int .i64 7)).setCell ⟨g6, off6 + 1, none⟩ (.int .i64 0)).setCell ⟨g6, off6 + 2, none⟩ (.string ⟨#[]⟩)) S p L (fun _ => none) 0 ∧ Below w.heap.size w (((X3.setCell ⟨g6, off6, none⟩ (.int .i64 7)).setCell ⟨g6, off6 + 1, none⟩ (.int .i64 0)).setCell ⟨g6, off6 + 2, none⟩ (.string ⟨#[]⟩)) from
                            ⟨(E2'.out.1.keep (Out.of (S := fun _ => False) B3.out) (fun _ h => h.elim)).keep (((Out.set (S := fun k => k = g6) ⟨g6, off6, none⟩ _ rfl).trans (Out.set (S := fun k => k = g6) ⟨g6, off6 + 1, none⟩ _ rfl)).trans (Out.set (S := fun k => k = g6) ⟨g6, off6 + 2, none⟩ _ rfl)) (fun k hk hs => by have := hLOW.out k hs; omega),
                              (((E2'.out.2.trans (B3.out.mono E2'.out.2.size)).setCell (p := ⟨g6, off6, none⟩) (by show w.heap.size ≤ g6; omega) _).setCell (p := ⟨g6, off6 + 1, none⟩) (by show w.heap.size ≤ g6; omega) _).setCell (p := ⟨g6, off6 + 2, none⟩) (by show w.heap.size ≤ g6; omega) _⟩)
                          have hxi : (0 : Int) < (xr.length : Int) := by omega
                          clear hb3 a2' e0
                          go_wp2_with fail
                          go_roundw
                          case rel => first | exact ⟨n + 1, by go_num, hnl, HF.out⟩ | ((repeat apply Exists.intro); refine ⟨?_, rfl⟩; exact ⟨n + 1, by go_num, hnl, HF.out⟩)
                          case measure => simp [intOf] <;> omega
                        · go_wp2_with fail
                          go_roundw
                          case rel => first | exact ⟨i + 1, by go_num, hlt, HN.out⟩ | ((repeat apply Exists.intro); refine ⟨?_, rfl⟩; exact ⟨i + 1, by go_num, hlt, HN.out⟩)
                          case measure => simp [intOf] <;> omega
                · go_wp2_with fail
                  go_roundw
                  case rel => first | exact ⟨m + 1, by go_num, hm2, HH.out⟩ | ((repeat apply Exists.intro); refine ⟨?_, rfl⟩; exact ⟨m + 1, by go_num, hm2, HH.out⟩)
                  case measure => simp [intOf] <;> omega
            · go_wp2_with fail
              go_meet
              exact HM.out
        case rest =>
          obtain ⟨W6, hW6⟩ : ∃ W, W = wc := ⟨_, rfl⟩
          subst hW6
          have H6 := Lib.hid hcut.out
          have hs6 := H6.out.2.size
          clear hcut D0
          have FN := Lib.hid (show ∀ W, Below W6.heap.size W6 W → Calls Try.prog 14 #[.pointer (some ⟨p, 0, none⟩), .string s] W fun e w' => e = .returned (.int .i64 (findT s L)) ∧ Below W.heap.size W w' from fun W hb => storeC.find W S p L (fun _ => none) 0 s (H6.out.1.keep (Out.of (S := fun _ => False) hb) (fun _ h => h.elim)))
          have RN := Lib.hid (show ∀ W, Below W6.heap.size W6 W → Calls Try.prog 19 #[.slice q L.length c, .string s] W fun e w' => e = .returned (.int .i64 (findT s L)) ∧ w' = W from fun W hb => rfind5_any L s q c 0 w.heap.size W hc hc2 (HT.out.same (Same.of (H6.out.2.trans (hb.mono hs6)) (Nat.le_refl _))))
          have MN := Lib.hid (show ∀ W, Below W6.heap.size W6 W → Calls Try.prog 15 #[.pointer (some ⟨p, 0, none⟩), .int .i64 x] W fun e w' => e = .returned (.int .i64 (manyT L x)) ∧ Below W.heap.size W w' from fun W hb => storeC.many W S p L (fun _ => none) 0 x (H6.out.1.keep (Out.of (S := fun _ => False) hb) (fun _ h => h.elim)) hx)
          have CN := Lib.hid (show ∀ W, Below W6.heap.size W6 W → Calls Try.prog 16 #[.pointer (some ⟨p, 0, none⟩), .int .i64 x] W fun e w' => (∃ q c, e = .returned (.slice q (colsT L x).length c) ∧ OwnCols w' W.heap.size q c (colsT L x)) ∧ Below W.heap.size W w' from fun W hb => storeC.cols W S p L (fun _ => none) 0 x (H6.out.1.keep (Out.of (S := fun _ => False) hb) (fun _ h => h.elim)) hx)
          have RO := Lib.hid (storeC.row W6 S p L (fun _ => none) 0 x y H6.out.1 hx hy)
          obtain ⟨fd, hfd⟩ : ∃ z, z = findT s L := ⟨_, rfl⟩
          rw [← hfd] at FN RN
          clear hfd
          rcases nth_cases L x with ⟨k, t, hxk, hk, ht, hnt⟩ | ⟨hno, hnt⟩
          · have em : manyT L x = (t.rows.length : Int) := by unfold manyT; rw [hnt]
            have er : rowT L x y = nth t.rows y := by unfold rowT; rw [hnt]
            rw [em] at MN
            rw [er] at RO
            have l20 := (HP.out.2 k t ht).1.2.2.1
            clear em er hnt ht CN
            have hx0 : 0 ≤ x := by omega
            have hxL : x < (L.length : Int) := by omega
            clear hxk hk
            rcases nth_cases t.rows y with ⟨n, xr, hyn, hn, hr, hn2⟩ | ⟨hno, hn2⟩
            · have hy0 : 0 ≤ y := by omega
              have hyL : y < (t.rows.length : Int) := by omega
              have RO := Lib.hid (show Calls Try.prog 17 #[.pointer (some ⟨p, 0, none⟩), .int .i64 x, .int .i64 y] W6 fun e w' => (∃ q c, e = .returned (.tuple #[.slice q xr.length c, .bool true]) ∧ True) ∧ Below W6.heap.size W6 w' from by
                have h := RO.out
                rw [hn2] at h
                exact h.mono fun e w' ⟨⟨q, c, he, _⟩, hb⟩ => ⟨⟨q, c, he, trivial⟩, hb⟩)
              clear hyn hn hr hn2
              go_wp2_with fail
              refine (RO.out).mono ?_
              rintro e W7 ⟨⟨q7, c7, rfl, -⟩, hb7⟩
              have B7 := Lib.hid hb7
              clear hb7
              go_wp2_with fail
              refine (FN.out W7 B7.out).mono ?_
              rintro e W8 ⟨rfl, hb8⟩
              have B8 := Lib.hid (B7.out.trans (hb8.mono B7.out.size))
              clear hb8
              go_wp2_with fail
              refine (RN.out W8 B8.out).mono ?_
              rintro e W9 ⟨rfl, rfl⟩
              go_wp2_with fail
              refine (MN.out _ B8.out).mono ?_
              rintro e W10 ⟨rfl, hb10⟩
              have B10 := Lib.hid (B8.out.trans (hb10.mono B8.out.size))
              clear hb10
              go_wp2
              go_ret
              exact ⟨rfl, H6.out.2.trans (B10.out.mono hs6)⟩
            · have RO := Lib.hid (show Calls Try.prog 17 #[.pointer (some ⟨p, 0, none⟩), .int .i64 x, .int .i64 y] W6 fun e w' => (∃ q c, e = .returned (.tuple #[.slice q 0 c, .bool false]) ∧ True) ∧ Below W6.heap.size W6 w' from by
                have h := RO.out
                rw [hn2] at h
                exact h.mono fun e w' ⟨⟨q, c, he, _⟩, hb⟩ => ⟨⟨q, c, he, trivial⟩, hb⟩)
              clear hn2
              by_cases hy0 : 0 ≤ y
              · have hyL : (t.rows.length : Int) ≤ y := by omega
                have hyD : decide (y < (t.rows.length : Int)) = false := decide_eq_false (by omega)
                clear hno
                go_wp2_with fail
                refine (RO.out).mono ?_
                rintro e W7 ⟨⟨q7, c7, rfl, -⟩, hb7⟩
                have B7 := Lib.hid hb7
                clear hb7
                go_wp2_with fail
                refine (FN.out W7 B7.out).mono ?_
                rintro e W8 ⟨rfl, hb8⟩
                have B8 := Lib.hid (B7.out.trans (hb8.mono B7.out.size))
                clear hb8
                go_wp2_with fail
                refine (RN.out W8 B8.out).mono ?_
                rintro e W9 ⟨rfl, rfl⟩
                go_wp2_with fail
                refine (MN.out _ B8.out).mono ?_
                rintro e W10 ⟨rfl, hb10⟩
                have B10 := Lib.hid (B8.out.trans (hb10.mono B8.out.size))
                clear hb10
                go_wp2
                go_ret
                exact ⟨rfl, H6.out.2.trans (B10.out.mono hs6)⟩
              · clear hno
                go_wp2_with fail
                refine (RO.out).mono ?_
                rintro e W7 ⟨⟨q7, c7, rfl, -⟩, hb7⟩
                have B7 := Lib.hid hb7
                clear hb7
                go_wp2_with fail
                refine (FN.out W7 B7.out).mono ?_
                rintro e W8 ⟨rfl, hb8⟩
                have B8 := Lib.hid (B7.out.trans (hb8.mono B7.out.size))
                clear hb8
                go_wp2_with fail
                refine (RN.out W8 B8.out).mono ?_
                rintro e W9 ⟨rfl, rfl⟩
                go_wp2
                go_ret
                exact ⟨rfl, H6.out.2.trans (B8.out.mono hs6)⟩
          · have em : manyT L x = 0 := by unfold manyT; rw [hnt]
            have er : rowT L x y = none := by unfold rowT; rw [hnt]
            have ec : colsT L x = [] := by unfold colsT; rw [hnt]
            rw [em] at MN
            have RO := Lib.hid (show Calls Try.prog 17 #[.pointer (some ⟨p, 0, none⟩), .int .i64 x, .int .i64 y] W6 fun e w' => (∃ q c, e = .returned (.tuple #[.slice q 0 c, .bool false]) ∧ True) ∧ Below W6.heap.size W6 w' from by
              have h := RO.out
              rw [er] at h
              exact h.mono fun e w' ⟨⟨q, c, he, _⟩, hb⟩ => ⟨⟨q, c, he, trivial⟩, hb⟩)
            have CN := Lib.hid (show ∀ W, Below W6.heap.size W6 W → Calls Try.prog 16 #[.pointer (some ⟨p, 0, none⟩), .int .i64 x] W fun e w' => (∃ q c, e = .returned (.slice q 0 c) ∧ True) ∧ Below W.heap.size W w' from fun W hb => by
              have h := CN.out W hb
              rw [ec] at h
              exact h.mono fun e w' ⟨⟨q, c, he, _⟩, hb⟩ => ⟨⟨q, c, he, trivial⟩, hb⟩)
            clear em er ec hnt
            by_cases hx0 : 0 ≤ x
            · have hxL : (L.length : Int) ≤ x := by omega
              clear hno
              go_wp2_with fail
              refine (RO.out).mono ?_
              rintro e W7 ⟨⟨q7, c7, rfl, -⟩, hb7⟩
              have B7 := Lib.hid hb7
              clear hb7
              go_wp2_with fail
              refine (FN.out W7 B7.out).mono ?_
              rintro e W8 ⟨rfl, hb8⟩
              have B8 := Lib.hid (B7.out.trans (hb8.mono B7.out.size))
              clear hb8
              go_wp2_with fail
              refine (RN.out W8 B8.out).mono ?_
              rintro e W9 ⟨rfl, rfl⟩
              go_wp2_with fail
              refine (MN.out _ B8.out).mono ?_
              rintro e W10 ⟨rfl, hb10⟩
              have B10 := Lib.hid (B8.out.trans (hb10.mono B8.out.size))
              clear hb10
              go_wp2_with fail
              refine (CN.out W10 B10.out).mono ?_
              rintro e W11 ⟨⟨q11, c11, rfl, -⟩, hb11⟩
              have B11 := Lib.hid (B10.out.trans (hb11.mono B10.out.size))
              clear hb11
              go_wp2
              go_ret
              exact ⟨rfl, H6.out.2.trans (B11.out.mono hs6)⟩
            · clear hno
              go_wp2_with fail
              refine (RO.out).mono ?_
              rintro e W7 ⟨⟨q7, c7, rfl, -⟩, hb7⟩
              have B7 := Lib.hid hb7
              clear hb7
              go_wp2_with fail
              refine (FN.out W7 B7.out).mono ?_
              rintro e W8 ⟨rfl, hb8⟩
              have B8 := Lib.hid (B7.out.trans (hb8.mono B7.out.size))
              clear hb8
              go_wp2_with fail
              refine (RN.out W8 B8.out).mono ?_
              rintro e W9 ⟨rfl, rfl⟩
              go_wp2_with fail
              refine (MN.out _ B8.out).mono ?_
              rintro e W10 ⟨rfl, hb10⟩
              have B10 := Lib.hid (B8.out.trans (hb10.mono B8.out.size))
              clear hb10
              go_wp2_with fail
              refine (CN.out W10 B10.out).mono ?_
              rintro e W11 ⟨⟨q11, c11, rfl, -⟩, hb11⟩
              have B11 := Lib.hid (B10.out.trans (hb11.mono B10.out.size))
              clear hb11
              go_wp2
              go_ret
              exact ⟨rfl, H6.out.2.trans (B11.out.mono hs6)⟩
    · have B3 := Lib.hid hB3
      have HP := Lib.hid hP
      have hs3 := hB3.size
      clear hB3 hP
      go_wp2_with fail
      refine (rright5_any L q c 0 w.heap.size w3 hc hc2 (HT.out.same (Same.of (EC.out.trans (B3.out.mono EC.out.size)) (Nat.le_refl _))) (Nat.le_trans EC.out.size hs3)).mono ?_
      rintro e w4 ⟨ht, hB4⟩
      obtain rfl := ht.no_of HP.out
      have HB4 := Lib.hid hB4
      clear ht hB4
      go_wp2
      go_ret
      exact ⟨rfl, (EC.out.trans (B3.out.mono EC.out.size)).trans (HB4.out.mono (Nat.le_trans EC.out.size hs3))⟩

/- FRAME -/

set_option maxRecDepth 100000 in
theorem storeOpens_lifted (os : Os) (started : os.Started) (H : Type) (enc : TypeId × Value → H) :
    ReturnsInHanded {} Try.checked os 4 .any (Rows.storeOpensSpec.pre6 enc Try.prog Try.f4 Rows.storeOpensRow.domain false) (Rows.storeOpensSpec.post enc Try.prog Try.f4 false true false false) := by
  refine returnsInHanded_of_change_sized (C := Try.checked) Try.own started (by kernel_rfl) Try.func4
    (ChangeSpec.witness6 (enc := enc) (C := Try.checked) false ⟨#[], #[.slice none 0 0, .string ⟨#[]⟩, .int .i64 0, .int .i64 0], []⟩ 8 (by kernel_rfl) (by kernel_rfl) (by kernel_rfl) (by kernel_rfl)) ?_
  intro W base args ds gs before hval0 hW _ hsz _
  have hval : ∀ (j : Nat) t v, Try.f4.params[j]? = some t → args[j]? = some v → Value.okWide Try.prog W .any base t v := hval0
  have hW' := hW
  obtain ⟨p, q, hA0, hV, rfl, _, _⟩ := hW
  have hA : DataW.TrodAll enc Try.prog W 0 (fun _ => true) true Try.f4.params.toList args.toList ds p := hA0
  rw [Try.params4] at hA hval hsz
  obtain ⟨v0, v1, v2, v3, d0, d1, d2, d3, p0, p1, p2, p3, rfl, rfl, rfl, h0, h1, h2, h3⟩ := trodAll_four hA
  obtain ⟨z2, rfl, iz2⟩ := open_num (hval 2 3 v2 rfl rfl) h2
  obtain ⟨z3, rfl, iz3⟩ := open_num (hval 3 3 v3 rfl rfl) h3
  obtain ⟨q0, L0, c0, rfl, le0, m0, rb0, tx0, tr0⟩ := open_tables (hval 0 22 v0 rfl rfl) h0 (fun n hn => of_decide_eq_true (List.all_eq_true.1 hsz _ (DataW.weights_mem_each (j := 0) (t := 22) rfl rfl n hn)))
  obtain ⟨s1, rfl, zs1⟩ := open_word6 (hval 1 9 v1 rfl rfl) h1 (fun n hn => of_decide_eq_true (List.all_eq_true.1 hsz _ (DataW.weights_mem_each (j := 1) (t := 9) rfl rfl n hn)))
  clear hA0 hval0
  refine (opens_walk q0 L0 c0 s1 z2 z3 W le0 m0 tx0 (by unfold reachBytes at rb0; omega) (fun t ht => by have h9 := tr0 t ht; unfold TabReach reachBytes at h9; exact h9) iz2 iz3).mono fun e W' ⟨he, hb⟩ => ⟨_, he, post_law rfl hW' rfl rfl ?_ hb⟩
  intro t ht
  rw [Try.params4] at ht
  simp only [List.mem_cons, List.not_mem_nil, or_false] at ht
  rcases ht with rfl | rfl | rfl | rfl <;> exact ⟨by kernel_rfl, of_decide_eq_true (by kernel_rfl)⟩

theorem storeOpens_holds : Rows.StoreOpensSaid :=
  OpenClaim.holds_of_wide 4 Try.f4 rfl rfl rfl rfl rfl rfl rfl ⟨rfl, rfl, rfl, rfl, rfl⟩ rfl rfl rfl rfl rfl (by kernel_rfl) Try.func4 (by kernel_rfl)
    (of_decide_eq_true (by kernel_rfl)) (by unfold Func.isWrapper; rw [if_neg (of_decide_eq_false (by kernel_rfl))]; exact ⟨rfl, rfl⟩)
    (fun os started H enc _ => storeOpens_lifted os started H enc)

#print axioms storeOpens_holds

end Go.Proofs.Ytkeekefekajfnaa
