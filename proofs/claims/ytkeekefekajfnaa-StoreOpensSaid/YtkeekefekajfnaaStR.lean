/- What a right database is; the reference's table, Right, Find. -/
import Derived.Test.YtkeekefekajfnaaStN
import Derived.Test.YtkeekefekajfnaaValA
namespace Go.Proofs.Ytkeekefekajfnaa
open Go.RowKit

def ColOK (l : List Col) (i : Nat) (c : Col) : Prop := NameP c.nm ∧ (1 ≤ c.kd ∧ c.kd ≤ 3) ∧ ∀ (k : Nat) (d : Col), k < i → l[k]? = some d → d.nm.toList ≠ c.nm.toList
def ValOK (v : Val) (c : Col) : Prop := v.right = true ∧ (v.k = 0 ∨ v.k = c.kd)
def RowOK (cols : List Col) (r : List Val) : Prop := r.length = cols.length ∧ ∀ (i : Nat) (v : Val) (c : Col), r[i]? = some v → cols[i]? = some c → ValOK v c
def TabP (t : Tab) : Prop := NameP t.nm ∧ (1 ≤ t.cols.length ∧ t.cols.length ≤ 6) ∧ t.rows.length ≤ 20 ∧ (∀ (i : Nat) (c : Col), t.cols[i]? = some c → ColOK t.cols i c) ∧ ∀ (i : Nat) (r : List Val), t.rows[i]? = some r → RowOK t.cols r
def TabOK (l : List Tab) (i : Nat) (t : Tab) : Prop := TabP t ∧ ∀ (k : Nat) (u : Tab), k < i → l[k]? = some u → u.nm.toList ≠ t.nm.toList
def TabsP (l : List Tab) : Prop := l.length ≤ 8 ∧ ∀ (i : Nat) (t : Tab), l[i]? = some t → TabOK l i t

/-- A table as it is handed over. -/
abbrev tabV (t : Tab) (p p' : Option Addr) (c c' : Nat) : Value := .agg #[.string t.nm, .slice p t.cols.length c, .slice p' t.rows.length c']

set_option maxRecDepth 100000 in
set_option maxHeartbeats 4000000 in
theorem rtable_any (t : Tab) (p p' : Option Addr) (c c' bl bh : Nat) (w : World) (hn : t.nm.size ≤ 9223372036854775807) (_ : t.cols.length ≤ c) (_ : c ≤ 9223372036854775807) (_ : t.rows.length ≤ c') (_ : c' ≤ 9223372036854775807)
    (hC : ColsA w bl bh p t.cols) (hR : RowsA w bl bh p' t.rows) (hh : bh ≤ w.heap.size) :
    Calls Try.prog 29 #[tabV t p p' c c'] w fun e w' => Tells (TabP t) e ∧ Below w.heap.size w w' := by
  have HC := Lib.hid hC
  have HR := Lib.hid hR
  clear hC hR
  go_enter Try.func29, Try.ntmps29
  go_wp2_with fail
  refine (rname_any t.nm _ hn).mono ?_
  rintro e w1 ⟨⟨b1, rfl, hb1⟩, hB⟩
  have q0 : w1.cell? ⟨w.heap.size, 0, none⟩ = some (.string t.nm) := (hB.cell (p := ⟨w.heap.size, 0, none⟩) (by simp)).trans (by rw [Lib.cell_of_heap (heap_alloc_new w _)]; rfl)
  have q1 : w1.cell? ⟨w.heap.size, 1, none⟩ = some (.slice p t.cols.length c) := (hB.cell (p := ⟨w.heap.size, 1, none⟩) (by simp)).trans (by rw [Lib.cell_of_heap (heap_alloc_new w _)]; rfl)
  have q2 : w1.cell? ⟨w.heap.size, 2, none⟩ = some (.slice p' t.rows.length c') := (hB.cell (p := ⟨w.heap.size, 2, none⟩) (by simp)).trans (by rw [Lib.cell_of_heap (heap_alloc_new w _)]; rfl)
  have hs1 : w.heap.size < w1.heap.size := by have := hB.size; simp at this; omega
  have E1 := Lib.hid (show Below w.heap.size w w1 from ((Below.refl _ _).alloc (Nat.le_refl _) _).trans (hB.mono (by simp)))
  clear hB
  cases b1 with
  | false =>
    have H1 := Lib.hid hb1
    clear hb1
    go_wp2
    go_ret
    exact ⟨Tells.no (fun h => by cases H1.out.2 h.1), E1.out⟩
  | true =>
    have H1 := Lib.hid (hb1.1 rfl)
    clear hb1
    by_cases l1 : 1 ≤ t.cols.length
    · by_cases l6 : t.cols.length ≤ 6
      · by_cases l20 : t.rows.length ≤ 20
        · go_wp2
          go_loopw [4] (fun vi wr => ∃ i : Nat, vi = .int .i64 i ∧ i ≤ t.cols.length ∧ Hid ((∀ (j : Nat) (d : Col), j < i → t.cols[j]? = some d → ColOK t.cols j d) ∧ Below w1.heap.size w1 wr)) (fun vi _ => t.cols.length - (intOf vi).toNat)
          case atStart => exact ⟨0, rfl, Nat.zero_le _, fun j d hj => absurd hj (Nat.not_lt_zero _), Below.refl _ _⟩
          case round =>
            obtain ⟨i, rfl, hi, HH⟩ := hrel
            have r0 := (HH.out.2.cell (p := ⟨w.heap.size, 0, none⟩) hs1).trans q0
            have r1 := (HH.out.2.cell (p := ⟨w.heap.size, 1, none⟩) hs1).trans q1
            have r2 := (HH.out.2.cell (p := ⟨w.heap.size, 2, none⟩) hs1).trans q2
            obtain ⟨V, hV⟩ : ∃ V, V = wr := ⟨_, rfl⟩
            subst hV
            have hsV : w1.heap.size ≤ V.heap.size := HH.out.2.size
            have EV := Lib.hid (show Below w.heap.size w V from E1.out.trans (HH.out.2.mono (Nat.le_of_lt hs1)))
            by_cases hlt : i < t.cols.length
            · obtain ⟨g, off, rfl, hg1, hg2, hcA⟩ := HC.out i hlt
              obtain ⟨x, hx⟩ : ∃ x, x = t.cols[i] := ⟨_, rfl⟩
              have hxi : t.cols[i]? = some x := by rw [hx]; exact List.getElem?_eq_getElem hlt
              have HX := Lib.hid hxi
              have CC := Lib.hid (show ∀ (W : World) (j : Nat) (d : Col), Below w.heap.size w W → t.cols[j]? = some d → colC W g (off + j * 2) d from fun W j d hb hj => by
                obtain ⟨⟨s1, s2⟩, s3⟩ := hcA j d hj
                exact ⟨⟨(hb.cell (p := ⟨g, _, none⟩) (show g < w.heap.size by omega)).trans s1, (hb.cell (p := ⟨g, _, none⟩) (show g < w.heap.size by omega)).trans s2⟩, s3⟩)
              obtain ⟨⟨a0, a1⟩, a2⟩ := CC.out V i x EV.out hxi
              clear hcA hx hxi
              go_wp2_with fail
              refine (rname_any x.nm _ a2).mono ?_
              rintro e w2 ⟨⟨b2, rfl, hb2⟩, hB2⟩
              have k0 : w2.cell? ⟨V.heap.size, 0, none⟩ = some (.string x.nm) := (hB2.cell (p := ⟨V.heap.size, 0, none⟩) (by simp)).trans (by rw [Lib.cell_of_heap (heap_alloc_new V _)]; rfl)
              have k1 : w2.cell? ⟨V.heap.size, 1, none⟩ = some (.int .i64 x.kd) := (hB2.cell (p := ⟨V.heap.size, 1, none⟩) (by simp)).trans (by rw [Lib.cell_of_heap (heap_alloc_new V _)]; rfl)
              have hB : Below V.heap.size V w2 := ((Below.refl _ _).alloc (Nat.le_refl _) _).trans (hB2.mono (by simp))
              have hs2 : V.heap.size < w2.heap.size := by have := hB2.size; simp at this; omega
              have z0 := (hB.cell (p := ⟨w.heap.size, 0, none⟩) (show w.heap.size < V.heap.size by omega)).trans r0
              have z1 := (hB.cell (p := ⟨w.heap.size, 1, none⟩) (show w.heap.size < V.heap.size by omega)).trans r1
              have z2 := (hB.cell (p := ⟨w.heap.size, 2, none⟩) (show w.heap.size < V.heap.size by omega)).trans r2
              have E2 := Lib.hid (show Below w.heap.size w w2 from EV.out.trans (hB.mono (by omega)))
              have HB2 := Lib.hid (show Below w1.heap.size w1 w2 from HH.out.2.trans (hB.mono hsV))
              have HJ := Lib.hid HH.out.1
              have H2 := Lib.hid hb2
              clear hB2 hB a0 a1 r0 r1 r2 q0 q1 q2 HH hb2
              cases b2 with
              | false =>
                go_wp2
                go_ret
                exact ⟨Tells.no (fun h => by cases H2.out.2 (h.2.2.2.1 i x HX.out).1), E2.out⟩
              | true =>
                by_cases kd1 : 1 ≤ x.kd
                · by_cases kd3 : x.kd ≤ 3
                  · go_wp2
                    go_loopw [7] (fun vk wx => ∃ k : Nat, vk = .int .i64 k ∧ k ≤ i ∧ Hid ((∀ (j : Nat) (d : Col), j < k → t.cols[j]? = some d → d.nm.toList ≠ x.nm.toList) ∧ Below w2.heap.size w2 wx)) (fun vk _ => i - (intOf vk).toNat)
                    case atStart => exact ⟨0, rfl, Nat.zero_le _, fun j d hj => absurd hj (Nat.not_lt_zero _), Below.refl _ _⟩
                    case round =>
                      obtain ⟨k, rfl, hk, HK⟩ := hrel
                      have vv0 := (HK.out.2.cell (p := ⟨w.heap.size, 0, none⟩) (show w.heap.size < w2.heap.size by omega)).trans z0
                      have vv1 := (HK.out.2.cell (p := ⟨w.heap.size, 1, none⟩) (show w.heap.size < w2.heap.size by omega)).trans z1
                      have vv2 := (HK.out.2.cell (p := ⟨w.heap.size, 2, none⟩) (show w.heap.size < w2.heap.size by omega)).trans z2
                      have m0 := (HK.out.2.cell (p := ⟨V.heap.size, 0, none⟩) hs2).trans k0
                      have EW : Below w.heap.size w wr := E2.out.trans (HK.out.2.mono (by omega))
                      have EWH := Lib.hid EW
                      by_cases hki : k < i
                      · obtain ⟨y, hy⟩ : ∃ y, y = t.cols[k]'(by omega) := ⟨_, rfl⟩
                        have hyk : t.cols[k]? = some y := by rw [hy]; exact List.getElem?_eq_getElem (by omega)
                        obtain ⟨⟨b0, _⟩, _⟩ := CC.out wr k y EW hyk
                        have HY := Lib.hid hyk
                        have hkl : k < t.cols.length := by omega
                        clear hy hyk EW
                        by_cases e : y.nm.toList = x.nm.toList
                        · have eb : (y.nm.toList == x.nm.toList) = true := by simpa using e
                          have EE := Lib.hid e
                          clear e
                          go_wp2_with fail
                          go_big_quiet (fail)
                          go_wp2
                          go_ret
                          exact ⟨Tells.no (fun h => (h.2.2.2.1 i x HX.out).2.2 k y hki HY.out EE.out), EWH.out.trans ((ext_drewN (ext_refl wr) nq).mono EWH.out.size)⟩
                        · have eb : (y.nm.toList == x.nm.toList) = false := by simpa using e
                          have EE := Lib.hid e
                          clear e
                          go_wp2_with fail
                          go_big_quiet (fail)
                          go_wp2
                          go_roundw
                          case rel =>
                            refine ⟨k + 1, by go_num, hki, fun j d hj hd => ?_, HK.out.2.trans ((ext_drewN (ext_refl wr) nq).mono HK.out.2.size)⟩
                            by_cases ej : j = k
                            · subst ej
                              rw [HY.out] at hd
                              cases hd
                              exact EE.out
                            · exact HK.out.1 j d (by omega) hd
                          case measure => simp [intOf] <;> omega
                      · have hke : k = i := by omega
                        subst hke
                        have nx : Hid ((∀ (j : Nat) (d : Col), j < k + 1 → t.cols[j]? = some d → ColOK t.cols j d) ∧ Below w1.heap.size w1 wr) := ⟨fun j d hj hd => by
                          by_cases ej : j = k
                          · subst ej
                            rw [HX.out] at hd
                            cases hd
                            exact ⟨H2.out.1 (by simp), ⟨kd1, kd3⟩, HK.out.1⟩
                          · exact HJ.out j d (by omega) hd, HB2.out.trans (HK.out.2.mono (by omega))⟩
                        go_wp2
                        go_roundw
                        case rel => exact ⟨k + 1, by go_num, hlt, nx⟩
                        case measure => simp [intOf] <;> omega
                  · go_wp2
                    go_ret
                    exact ⟨Tells.no (fun h => by have hk := (h.2.2.2.1 i x HX.out).2.1.2; omega), E2.out⟩
                · go_wp2
                  go_ret
                  exact ⟨Tells.no (fun h => by have hk := (h.2.2.2.1 i x HX.out).2.1.1; omega), E2.out⟩
            · have HCOLS := Lib.hid (show ∀ (j : Nat) (d : Col), t.cols[j]? = some d → ColOK t.cols j d from fun j d hd => HH.out.1 j d (by have := (List.getElem?_eq_some_iff.1 hd).1; omega) hd)
              clear HH q0 q1 q2
              go_wp2
              go_loopw [8] (fun vi wr => ∃ i : Nat, vi = .int .i64 i ∧ i ≤ t.rows.length ∧ Hid ((∀ (j : Nat) (r : List Val), j < i → t.rows[j]? = some r → RowOK t.cols r) ∧ Below V.heap.size V wr)) (fun vi _ => t.rows.length - (intOf vi).toNat)
              case atStart => exact ⟨0, rfl, Nat.zero_le _, fun j d hj => absurd hj (Nat.not_lt_zero _), Below.refl _ _⟩
              case round =>
                obtain ⟨i2, rfl, hi2, HH⟩ := hrel
                obtain ⟨U, hU⟩ : ∃ U, U = wr := ⟨_, rfl⟩
                subst hU
                have hsU : V.heap.size ≤ U.heap.size := HH.out.2.size
                have hbV : w.heap.size < V.heap.size := by omega
                have s0 := (HH.out.2.cell (p := ⟨w.heap.size, 0, none⟩) hbV).trans r0
                have s1 := (HH.out.2.cell (p := ⟨w.heap.size, 1, none⟩) hbV).trans r1
                have s2 := (HH.out.2.cell (p := ⟨w.heap.size, 2, none⟩) hbV).trans r2
                have EU := Lib.hid (show Below w.heap.size w U from EV.out.trans (HH.out.2.mono (Nat.le_of_lt hbV)))
                by_cases hl2 : i2 < t.rows.length
                · obtain ⟨g, off, rfl, hg1, hg2, hcA⟩ := HR.out i2 hl2
                  obtain ⟨x, hx⟩ : ∃ x, x = t.rows[i2] := ⟨_, rfl⟩
                  have hxi : t.rows[i2]? = some x := by rw [hx]; exact List.getElem?_eq_getElem hl2
                  have HX := Lib.hid hxi
                  obtain ⟨pr, cr, hcell, hcr, hcr2, hV2⟩ := hcA i2 x hxi
                  rw [Nat.mul_one] at hcell
                  have CR := Lib.hid (show ∀ (W : World), Below w.heap.size w W → W.cell? ⟨g, off + i2, none⟩ = some (.slice pr x.length cr) from fun W hb => (hb.cell (p := ⟨g, _, none⟩) (show g < w.heap.size by omega)).trans hcell)
                  have a0 := CR.out U EU.out
                  have HV := Lib.hid hV2
                  clear hcA hx hxi hcell hV2
                  by_cases hln : x.length = t.cols.length
                  · go_wp2_with fail
                    go_big_quiet (fail)
                    go_wp2
                    obtain ⟨U2, hU2⟩ : ∃ U2, U2 = U.drewN nq := ⟨_, rfl⟩
                    rw [← hU2]
                    have dU : Below U.heap.size U U2 := by rw [hU2]; exact ext_drewN (ext_refl U) nq
                    have hbU : w.heap.size < U.heap.size := by omega
                    have E3 := Lib.hid (show Below w.heap.size w U2 from EU.out.trans (dU.mono (Nat.le_of_lt hbU)))
                    have HB3 := Lib.hid (show Below V.heap.size V U2 from HH.out.2.trans (dU.mono hsU))
                    have t1 := (dU.cell (p := ⟨w.heap.size, 1, none⟩) hbU).trans s1
                    have t2 := (dU.cell (p := ⟨w.heap.size, 2, none⟩) hbU).trans s2
                    have hsU2 := dU.size
                    have HJ := Lib.hid HH.out.1
                    have HLN := Lib.hid hln
                    clear dU hU2 s0 s1 s2 r0 r1 r2 HH a0 hln
                    go_loopw [9] (fun vk wx => ∃ k : Nat, vk = .int .i64 k ∧ k ≤ t.cols.length ∧ Hid ((∀ (j : Nat) (v : Val) (d : Col), j < k → x[j]? = some v → t.cols[j]? = some d → ValOK v d) ∧ Below U2.heap.size U2 wx)) (fun vk _ => t.cols.length - (intOf vk).toNat)
                    case atStart => exact ⟨0, rfl, Nat.zero_le _, fun j v d hj => absurd hj (Nat.not_lt_zero _), Below.refl _ _⟩
                    case round =>
                      obtain ⟨k, rfl, hk, HK⟩ := hrel
                      obtain ⟨T, hT⟩ : ∃ T, T = wr := ⟨_, rfl⟩
                      subst hT
                      have hb2 : w.heap.size < U2.heap.size := by omega
                      have vv1 := (HK.out.2.cell (p := ⟨w.heap.size, 1, none⟩) hb2).trans t1
                      have vv2 := (HK.out.2.cell (p := ⟨w.heap.size, 2, none⟩) hb2).trans t2
                      have ET := Lib.hid (show Below w.heap.size w T from E3.out.trans (HK.out.2.mono (Nat.le_of_lt hb2)))
                      have hsT : U2.heap.size ≤ T.heap.size := HK.out.2.size
                      by_cases hkl : k < t.cols.length
                      · have hkx : k < x.length := by have := HLN.out; omega
                        obtain ⟨gv, ov, rfl, hv1, hv2, hvA⟩ := HV.out k hkx
                        obtain ⟨gc, oc, rfl, hcc1, hcc2, hcA⟩ := HC.out k hkl
                        obtain ⟨v, hv⟩ : ∃ v, v = x[k] := ⟨_, rfl⟩
                        obtain ⟨d, hdd⟩ : ∃ d, d = t.cols[k] := ⟨_, rfl⟩
                        have hvk : x[k]? = some v := by rw [hv]; exact List.getElem?_eq_getElem hkx
                        have hdk : t.cols[k]? = some d := by rw [hdd]; exact List.getElem?_eq_getElem hkl
                        have CV := Lib.hid (show ∀ (W : World), Below w.heap.size w W → valC W gv (ov + k * 3) v from fun W hb => by
                          obtain ⟨x1, x2, x3⟩ := hvA k v hvk
                          exact ⟨(hb.cell (p := ⟨gv, _, none⟩) (show gv < w.heap.size by omega)).trans x1, (hb.cell (p := ⟨gv, _, none⟩) (show gv < w.heap.size by omega)).trans x2, (hb.cell (p := ⟨gv, _, none⟩) (show gv < w.heap.size by omega)).trans x3⟩)
                        have CD := Lib.hid (show ∀ (W : World), Below w.heap.size w W → W.cell? ⟨gc, oc + k * 2 + 1, none⟩ = some (.int .i64 d.kd) from fun W hb => (hb.cell (p := ⟨gc, _, none⟩) (show gc < w.heap.size by omega)).trans (hcA k d hdk).1.2)
                        obtain ⟨b0, b1, b2⟩ := CV.out T ET.out
                        have a0 := CR.out T ET.out
                        have HVK := Lib.hid (And.intro hvk hdk)
                        clear hvA hcA hv hdd hvk hdk
                        go_wp2_with fail
                        refine (rright_any v _).mono ?_
                        rintro e w5 ⟨rfl, hB5⟩
                        have k0 : w5.cell? ⟨T.heap.size, 0, none⟩ = some (.int .i64 v.k) := (hB5.cell (p := ⟨T.heap.size, 0, none⟩) (by simp)).trans (by rw [Lib.cell_of_heap (heap_alloc_new T _)]; rfl)
                        have hB : Below T.heap.size T w5 := ((Below.refl _ _).alloc (Nat.le_refl _) _).trans (hB5.mono (by simp))
                        have hbT : w.heap.size < T.heap.size := by omega
                        have E5 := Lib.hid (show Below w.heap.size w w5 from ET.out.trans (hB.mono (Nat.le_of_lt hbT)))
                        have y1 := (hB.cell (p := ⟨w.heap.size, 1, none⟩) hbT).trans vv1
                        have y2 := (hB.cell (p := ⟨w.heap.size, 2, none⟩) hbT).trans vv2
                        have d0 := CD.out w5 E5.out
                        have HB5 := Lib.hid (show Below U2.heap.size U2 w5 from HK.out.2.trans (hB.mono hsT))
                        have HKJ := Lib.hid HK.out.1
                        have hs5 := hB.size
                        clear hB hB5 b0 b1 b2 a0 vv1 vv2 t1 t2 HK
                        have hend : Hid (ValOK v d → ∀ n, (∀ (j : Nat) (v : Val) (d : Col), j < k + 1 → x[j]? = some v → t.cols[j]? = some d → ValOK v d) ∧ Below U2.heap.size U2 (w5.drewN n)) := fun hok n => ⟨fun j v' d' hj h1 h2 => by
                          by_cases ej : j = k
                          · subst ej
                            rw [HVK.out.1] at h1
                            rw [HVK.out.2] at h2
                            cases h1
                            cases h2
                            exact hok
                          · exact HKJ.out j v' d' (by omega) h1 h2, HB5.out.trans ((ext_drewN (ext_refl w5) n).mono (by omega))⟩
                        have hbad : Hid (¬ ValOK v d → ¬ TabP t) := fun hn h => hn ((h.2.2.2.2 i2 x HX.out).2 k v d HVK.out.1 HVK.out.2)
                        cases hr : v.right with
                        | false =>
                          have HRR := Lib.hid hr
                          clear hr
                          go_wp2_with fail
                          go_big_quiet (fail)
                          go_wp2
                          go_ret
                          exact ⟨Tells.no (hbad.out (fun h => by have h1 := h.1; rw [HRR.out] at h1; cases h1)), E5.out.trans ((ext_drewN (ext_refl w5) nq).mono E5.out.size)⟩
                        | true =>
                          have HRR := Lib.hid hr
                          clear hr
                          by_cases hv0 : v.k = 0
                          · have hq : (v.k != 0) = false := by simpa using hv0
                            have HV0 := Lib.hid hv0
                            clear hv0
                            go_wp2_with fail
                            go_big_quiet (fail)
                            go_wp2
                            go_roundw
                            case rel => exact ⟨k + 1, by go_num, hkl, hend.out ⟨HRR.out, .inl HV0.out⟩ nq⟩
                            case measure => simp [intOf] <;> omega
                          · have hq : (v.k != 0) = true := by simpa using hv0
                            by_cases hvd : v.k = d.kd
                            · have hq2 : (v.k != d.kd) = false := by simpa using hvd
                              have HV0 := Lib.hid hvd
                              clear hv0 hvd
                              go_wp2_with fail
                              go_big_quiet (fail)
                              go_wp2
                              go_roundw
                              case rel => exact ⟨k + 1, by go_num, hkl, hend.out ⟨HRR.out, .inr HV0.out⟩ nq⟩
                              case measure => simp [intOf] <;> omega
                            · have hq2 : (v.k != d.kd) = true := by simpa using hvd
                              have HV0 := Lib.hid (And.intro hv0 hvd)
                              clear hv0 hvd
                              go_wp2_with fail
                              go_big_quiet (fail)
                              go_wp2
                              go_ret
                              exact ⟨Tells.no (hbad.out (fun h => h.2.elim HV0.out.1 HV0.out.2)), E5.out.trans ((ext_drewN (ext_refl w5) nq).mono E5.out.size)⟩
                      · have hke : k = t.cols.length := by omega
                        subst hke
                        have nx : Hid ((∀ (j : Nat) (r : List Val), j < i2 + 1 → t.rows[j]? = some r → RowOK t.cols r) ∧ Below V.heap.size V T) := ⟨fun j r hj hr => by
                          by_cases ej : j = i2
                          · subst ej
                            rw [HX.out] at hr
                            cases hr
                            exact ⟨HLN.out, fun n v d h1 h2 => HK.out.1 n v d (by have := (List.getElem?_eq_some_iff.1 h2).1; omega) h1 h2⟩
                          · exact HJ.out j r (by omega) hr, HB3.out.trans (HK.out.2.mono (by omega))⟩
                        go_wp2
                        go_roundw
                        case rel => exact ⟨i2 + 1, by go_num, hl2, nx⟩
                        case measure => simp [intOf] <;> omega
                  · go_wp2_with fail
                    go_big_quiet (fail)
                    go_wp2
                    go_ret
                    exact ⟨Tells.no (fun h => hln (h.2.2.2.2 i2 x HX.out).1), EU.out.trans ((ext_drewN (ext_refl U) nq).mono EU.out.size)⟩
                · go_wp2
                  go_ret
                  exact ⟨Tells.yes ⟨H1.out, ⟨l1, l6⟩, l20, HCOLS.out, fun j r hr => HH.out.1 j r (by have := (List.getElem?_eq_some_iff.1 hr).1; omega) hr⟩, EU.out⟩
        · go_wp2
          go_ret
          exact ⟨Tells.no (fun h => by have hk := h.2.2.1; omega), E1.out⟩
      · go_wp2
        go_ret
        exact ⟨Tells.no (fun h => by have hk := h.2.1.2; omega), E1.out⟩
    · go_wp2
      go_ret
      exact ⟨Tells.no (fun h => by have hk := h.2.1.1; omega), E1.out⟩

set_option maxRecDepth 100000 in
set_option maxHeartbeats 4000000 in
theorem rright5_any (l : List Tab) (p : Option Addr) (c bl bh : Nat) (w : World) (_ : l.length ≤ c) (_ : c ≤ 9223372036854775807) (hT : TabsA w bl bh p l) (hh : bh ≤ w.heap.size) :
    Calls Try.prog 12 #[.slice p l.length c] w fun e w' => Tells (TabsP l) e ∧ Below w.heap.size w w' := by
  have HT := Lib.hid hT
  clear hT
  by_cases l8 : l.length ≤ 8
  · go_enter Try.func12, Try.ntmps12
    go_wp2
    go_loopw [3] (fun vi wr => ∃ i : Nat, vi = .int .i64 i ∧ i ≤ l.length ∧ Hid ((∀ (j : Nat) (t : Tab), j < i → l[j]? = some t → TabOK l j t) ∧ Below w.heap.size w wr)) (fun vi _ => l.length - (intOf vi).toNat)
    case atStart => exact ⟨0, rfl, Nat.zero_le _, fun j d hj => absurd hj (Nat.not_lt_zero _), Below.refl _ _⟩
    case round =>
      obtain ⟨i, rfl, hi, HH⟩ := hrel
      obtain ⟨V, hV⟩ : ∃ V, V = wr := ⟨_, rfl⟩
      subst hV
      have hsV : w.heap.size ≤ V.heap.size := HH.out.2.size
      by_cases hlt : i < l.length
      · obtain ⟨g, off, rfl, hg1, hg2, hcA⟩ := (HT.out.same (Same.of HH.out.2 hh)) i hlt
        obtain ⟨t, ht⟩ : ∃ t, t = l[i] := ⟨_, rfl⟩
        have hti : l[i]? = some t := by rw [ht]; exact List.getElem?_eq_getElem hlt
        have HTI := Lib.hid hti
        obtain ⟨⟨a0, a3⟩, ⟨p1, c1, a1, a4, a5, hC⟩, p2, c2, a2, a6, a7, hR⟩ := hcA i t hti
        have CN := Lib.hid (show ∀ (W : World), Below V.heap.size V W → ∀ (j : Nat) (u : Tab), l[j]? = some u → W.cell? ⟨g, off + j * 3, none⟩ = some (.string u.nm) from fun W hb j u hj => (hb.cell (p := ⟨g, _, none⟩) (show g < V.heap.size by omega)).trans (hcA j u hj).1.1)
        have CR := Lib.hid (And.intro hC hR)
        clear ht hti hcA hC hR
        go_wp2_with fail
        refine (rtable_any t p1 p2 c1 c2 bl bh V a3 a4 a5 a6 a7 CR.out.1 CR.out.2 (by omega)).mono ?_
        rintro e w2 ⟨⟨b2, rfl, hb2⟩, hB2⟩
        have HB2 := Lib.hid hB2
        have H2 := Lib.hid hb2
        have E2 := Lib.hid (show Below w.heap.size w w2 from HH.out.2.trans (hB2.mono hsV))
        have hs2 := hB2.size
        clear hB2 hb2 a0 a1 a2
        cases b2 with
        | false =>
          go_wp2
          go_ret
          exact ⟨Tells.no (fun h => by cases H2.out.2 (h.2 i t HTI.out).1), E2.out⟩
        | true =>
          go_wp2
          go_loopw [5] (fun vk wx => ∃ k : Nat, vk = .int .i64 k ∧ k ≤ i ∧ Hid ((∀ (j : Nat) (u : Tab), j < k → l[j]? = some u → u.nm.toList ≠ t.nm.toList) ∧ Below w2.heap.size w2 wx)) (fun vk _ => i - (intOf vk).toNat)
          case atStart => exact ⟨0, rfl, Nat.zero_le _, fun j d hj => absurd hj (Nat.not_lt_zero _), Below.refl _ _⟩
          case round =>
            obtain ⟨k, rfl, hk, HK⟩ := hrel
            have EWH := Lib.hid (show Below V.heap.size V wr from HB2.out.trans (HK.out.2.mono hs2))
            by_cases hki : k < i
            · obtain ⟨y, hy⟩ : ∃ y, y = l[k]'(by omega) := ⟨_, rfl⟩
              have hyk : l[k]? = some y := by rw [hy]; exact List.getElem?_eq_getElem (by omega)
              have b0 := CN.out wr EWH.out k y hyk
              have b1 := CN.out wr EWH.out i t HTI.out
              have HY := Lib.hid hyk
              have hkl : k < l.length := by omega
              clear hy hyk
              by_cases e : y.nm.toList = t.nm.toList
              · have eb : (y.nm.toList == t.nm.toList) = true := by simpa using e
                have EE := Lib.hid e
                clear e
                go_wp2_with fail
                go_big_quiet (fail)
                go_wp2
                go_ret
                exact ⟨Tells.no (fun h => (h.2 i t HTI.out).2 k y hki HY.out EE.out), (HH.out.2.trans (EWH.out.mono hsV)).trans ((ext_drewN (ext_refl wr) nq).mono (by have := EWH.out.size; omega))⟩
              · have eb : (y.nm.toList == t.nm.toList) = false := by simpa using e
                have EE := Lib.hid e
                clear e
                go_wp2_with fail
                go_big_quiet (fail)
                go_wp2
                go_roundw
                case rel =>
                  refine ⟨k + 1, by go_num, hki, fun j d hj hd => ?_, HK.out.2.trans ((ext_drewN (ext_refl wr) nq).mono HK.out.2.size)⟩
                  by_cases ej : j = k
                  · subst ej
                    rw [HY.out] at hd
                    cases hd
                    exact EE.out
                  · exact HK.out.1 j d (by omega) hd
                case measure => simp [intOf] <;> omega
            · have hke : k = i := by omega
              subst hke
              have nx : Hid ((∀ (j : Nat) (u : Tab), j < k + 1 → l[j]? = some u → TabOK l j u) ∧ Below w.heap.size w wr) := ⟨fun j d hj hd => by
                by_cases ej : j = k
                · subst ej
                  rw [HTI.out] at hd
                  cases hd
                  exact ⟨H2.out.1 (by simp), HK.out.1⟩
                · exact HH.out.1 j d (by omega) hd, E2.out.trans (HK.out.2.mono (by omega))⟩
              go_wp2
              go_roundw
              case rel => exact ⟨k + 1, by go_num, hlt, nx⟩
              case measure => simp [intOf] <;> omega
      · go_wp2
        go_ret
        exact ⟨Tells.yes ⟨l8, fun j u hu => HH.out.1 j u (by have := (List.getElem?_eq_some_iff.1 hu).1; omega) hu⟩, HH.out.2⟩
  · go_enter Try.func12, Try.ntmps12
    go_wp2
    go_ret
    exact ⟨Tells.no (fun h => l8 h.1), Below.refl _ _⟩

/-- The place of the first table of a name, or -1. -/
def findT (s : ByteArray) : List Tab → Int
  | [] => -1
  | t :: l => if t.nm.toList = s.toList then 0 else if findT s l = -1 then -1 else findT s l + 1
theorem findT_ge (s : ByteArray) (l : List Tab) : -1 ≤ findT s l := by
  induction l with
  | nil => exact Int.le_refl _
  | cons t l ih => unfold findT; split <;> (try split) <;> omega
theorem findT_at (s : ByteArray) : ∀ (l : List Tab) (i : Nat) (t : Tab), l[i]? = some t → t.nm.toList = s.toList → (∀ (j : Nat) (u : Tab), j < i → l[j]? = some u → u.nm.toList ≠ s.toList) → findT s l = i
  | [], i, t, h, _, _ => by simp at h
  | u :: l, 0, t, h, he, _ => by
    simp at h
    subst h
    unfold findT
    rw [if_pos he]
    rfl
  | u :: l, i + 1, t, h, he, hn => by
    have h0 : u.nm.toList ≠ s.toList := hn 0 u (by omega) rfl
    have ih := findT_at s l i t (by simpa using h) he (fun j v hj hv => hn (j + 1) v (by omega) (by simpa using hv))
    unfold findT
    rw [if_neg h0, ih, if_neg (by omega)]
    omega
theorem findT_none (s : ByteArray) : ∀ (l : List Tab), (∀ (j : Nat) (u : Tab), l[j]? = some u → u.nm.toList ≠ s.toList) → findT s l = -1
  | [], _ => rfl
  | u :: l, hn => by
    have ih := findT_none s l (fun j v hv => hn (j + 1) v (by simpa using hv))
    unfold findT
    rw [if_neg (hn 0 u rfl), ih, if_pos rfl]

set_option maxRecDepth 100000 in
set_option maxHeartbeats 4000000 in
theorem rfind5_any (l : List Tab) (s : ByteArray) (p : Option Addr) (c bl bh : Nat) (w : World) (hc : l.length ≤ c) (hc2 : c ≤ 9223372036854775807) (hT : TabsA w bl bh p l) :
    Calls Try.prog 19 #[.slice p l.length c, .string s] w fun e w' => e = .returned (.int .i64 (findT s l)) ∧ w' = w := by
  have HT := Lib.hid hT
  clear hT
  obtain ⟨r, hr⟩ : ∃ r, r = findT s l := ⟨_, rfl⟩
  rw [← hr]
  have HR := Lib.hid hr
  clear hr
  go_enter Try.func19, Try.ntmps19
  go_wp2
  go_loopw [5] (fun vi wr => ∃ i : Nat, vi = .int .i64 i ∧ i ≤ l.length ∧ Hid (∀ (j : Nat) (t : Tab), j < i → l[j]? = some t → t.nm.toList ≠ s.toList) ∧ w = wr) (fun vi _ => l.length - (intOf vi).toNat)
  case atStart => exact ⟨0, rfl, Nat.zero_le _, fun j d hj => absurd hj (Nat.not_lt_zero _), rfl⟩
  case round =>
    obtain ⟨i, rfl, hi, HH, rfl⟩ := hrel
    by_cases hlt : i < l.length
    · obtain ⟨g, off, rfl, hg1, hg2, hcA⟩ := HT.out i hlt
      obtain ⟨t, ht⟩ : ∃ t, t = l[i] := ⟨_, rfl⟩
      have hti : l[i]? = some t := by rw [ht]; exact List.getElem?_eq_getElem hlt
      have HTI := Lib.hid hti
      have a0 := (hcA i t hti).1.1
      clear ht hti hcA
      by_cases e : t.nm.toList = s.toList
      · have eb : (t.nm.toList == s.toList) = true := by simpa using e
        have hri : r = (i : Int) := by rw [HR.out]; exact findT_at s l i t HTI.out e HH.out
        clear e
        subst hri
        go_wp2
        go_ret
        exact ⟨rfl, by trivial⟩
      · have eb : (t.nm.toList == s.toList) = false := by simpa using e
        have EE := Lib.hid e
        clear e
        go_wp2
        go_roundw
        case rel =>
          refine ⟨i + 1, by go_num, hlt, fun j d hj hd => ?_, by trivial⟩
          by_cases ej : j = i
          · subst ej
            rw [HTI.out] at hd
            cases hd
            exact EE.out
          · exact HH.out j d (by omega) hd
        case measure => simp [intOf] <;> omega
    · have hri : r = -1 := by rw [HR.out]; exact findT_none s l (fun j u hu => HH.out j u (by have := (List.getElem?_eq_some_iff.1 hu).1; omega) hu)
      subst hri
      go_wp2
      go_ret
      exact ⟨rfl, by trivial⟩

end Go.Proofs.Ytkeekefekajfnaa
