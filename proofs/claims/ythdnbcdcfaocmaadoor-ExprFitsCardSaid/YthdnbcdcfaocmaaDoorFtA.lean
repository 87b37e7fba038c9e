/- What ExprFits makes: kinds of rows' values; whether all are values. -/
import Derived.Test.YthdnbcdcfaocmaaDoorEgB
import Derived.Test.YthdnbcdcfaocmaaDoorExN
import Derived.Test.YthdnbcdcfaocmaaDoorEvQ
import Derived.Test.YthdnbcdcfaocmaaDoorFlat2
import Derived.Test.YthdnbcdcfaocmaaDoorValA
namespace Go.Proofs.YthdnbcdcfaocmaaDoor
open Go.RowKit Go.Deep
set_option maxRecDepth 100000

set_option maxHeartbeats 4000000 in
theorem lawright_any (q : Option Addr) (l : List Val) (c : Nat) (w : World) (hlm : l.length ≤ 9223372036854775807) (h : ValsA w 0 w.heap.size q l) : Calls Tryd.prog 29 #[.slice q l.length c] w fun e w' => e = .returned (.bool (l.all Val.right)) ∧ Below w.heap.size w w' := by
  obtain ⟨n, hn⟩ : ∃ n, n = l.length := ⟨_, rfl⟩
  rw [← hn] at hlm ⊢
  have HN := Lib.hid hn
  have H := Lib.hid h
  clear hn h
  go_enter Tryd.func29, Tryd.ntmps29
  go_wp2_with fail
  go_loopw [3] (fun vi wr => ∃ i : Nat, vi = .int .i64 i ∧ i ≤ n ∧ Hid ((l.take i).all Val.right = true) ∧ Hid (Below w.heap.size w wr)) (fun vi _ => n - (intOf vi).toNat)
  case atStart => exact ⟨0, rfl, by omega, rfl, ext_refl _⟩
  case round =>
    obtain ⟨i, rfl, hi, hA, hB⟩ := hrel
    obtain ⟨V, hV⟩ : ∃ V, V = wr := ⟨_, rfl⟩
    rw [← hV] at hB
    rw [← hV]
    have HA := Lib.hid hA
    have HB := Lib.hid hB
    clear hA hB hV
    by_cases hlt : i < n
    · have hil : i < l.length := by rw [← HN.out]; exact hlt
      obtain ⟨g, off, hq, -, hg, hc0, hc1, hc2⟩ := ArrA.at_ (ValsA.same H.out (Same.of HB.out (Nat.le_refl _))) hil
      subst hq
      obtain ⟨x, hx⟩ : ∃ x, x = l[i] := ⟨_, rfl⟩
      rw [← hx] at hc0 hc1 hc2
      have HX := Lib.hid (show l[i]? = some x by rw [hx, List.getElem?_eq_getElem hil])
      have hgV : g < V.heap.size := Nat.lt_of_lt_of_le hg HB.out.size
      clear hx hg
      obtain ⟨xk, xn, xs⟩ := x
      go_wp2_with fail
      refine (right_any ⟨xk, xn, xs⟩ V).mono ?_
      rintro e X ⟨he, hb⟩
      have HBX := Lib.hid (HB.out.trans (hb.mono HB.out.size))
      clear hb hc0 hc1 hc2
      cases hr : Val.right ⟨xk, xn, xs⟩ with
      | false =>
        have HR := Lib.hid hr
        rw [hr] at he
        clear hr
        subst he
        go_wp2_with fail
        refine bodyPost_ret (v := .bool false) (by simp [results, Tryd.results29, go_sem]) rfl ⟨?_, HBX.out⟩
        have h2 : l.all Val.right = false := by
          rw [List.all_eq_false]
          exact ⟨_, List.mem_of_getElem? HX.out, by rw [HR.out]; decide⟩
        rw [h2]
      | true =>
        have HR := Lib.hid hr
        rw [hr] at he
        clear hr
        subst he
        go_wp2_with fail
        go_roundw
        case rel => exact ⟨i + 1, by go_num, hlt, by show (l.take (i + 1)).all Val.right = true; rw [take_snoc HX.out, List.all_append, HA.out]; simp [HR.out], HBX.out⟩
        case measure => simp [intOf] <;> omega
    · obtain rfl : i = n := by omega
      have HL := Lib.hid (show l.all Val.right = true by have h2 := HA.out.out; rw [HN.out, List.take_length] at h2; exact h2)
      go_wp2_with fail
      refine bodyPost_ret (v := .bool true) (by simp [results, Tryd.results29, go_sem]) rfl ⟨by rw [HL.out], HB.out⟩

set_option maxHeartbeats 4000000 in
theorem lawrow_any (q : Option Addr) (l : List Val) (c : Nat) (w : World) (hlm : l.length * 32 ≤ reachBytes) (h : ValsA w 0 w.heap.size q l) : Calls Tryd.prog 31 #[.slice q l.length c] w fun e w' => ∃ v, e = .returned v ∧ OwnK w' w.heap.size v (l.map Val.k) ∧ Below w.heap.size w w' := by
  unfold reachBytes at hlm
  obtain ⟨n, hn⟩ : ∃ n, n = l.length := ⟨_, rfl⟩
  rw [← hn] at hlm ⊢
  have HN := Lib.hid hn
  have H := Lib.hid h
  clear hn h
  go_enter Tryd.func31, Tryd.ntmps31
  go_wp2_with fail
  go_loopw [3, 4] (fun vo vi wr => ∃ i : Nat, vi = .int .i64 i ∧ i ≤ n ∧ Hid (OwnK wr w.heap.size vo ((l.take i).map Val.k)) ∧ Hid (Below w.heap.size w wr)) (fun _ vi _ => n - (intOf vi).toNat)
  case atStart => exact ⟨0, rfl, by omega, OwnF.nil _ _ _, ext_refl _⟩
  case round =>
    obtain ⟨i, rfl, hi, hA, hB⟩ := hrel
    obtain ⟨V, hV⟩ : ∃ V, V = wr := ⟨_, rfl⟩
    rw [← hV] at hA hB
    rw [← hV]
    have HA := Lib.hid hA.out
    have HB := Lib.hid hB.out
    clear hA hB hV
    obtain ⟨qo, co, rfl, -, -, -⟩ := OwnK.read HA.out
    by_cases hlt : i < n
    · have hil : i < l.length := by rw [← HN.out]; exact hlt
      obtain ⟨g, off, hq, -, hg, hc0, hc1, hc2⟩ := ArrA.at_ (ValsA.same H.out (Same.of HB.out (Nat.le_refl _))) hil
      subst hq
      obtain ⟨x, hx⟩ : ∃ x, x = l[i] := ⟨_, rfl⟩
      rw [← hx] at hc0 hc1 hc2
      have HX := Lib.hid (show l[i]? = some x by rw [hx, List.getElem?_eq_getElem hil])
      have hgV : g < V.heap.size := Nat.lt_of_lt_of_le hg HB.out.size
      have hlen : ((l.take i).map Val.k).length = i := by rw [List.length_map, List.length_take]; omega
      rw [hlen] at HA ⊢
      have HLen := Lib.hid hlen
      clear hx hg hc1 hc2 hlen
      obtain ⟨xk, xn, xs⟩ := x
      simp only at hc0
      go_wp2_with (at_builtin; refine wp_append_flat rfl _ _ 39 3 rfl Tryd.underlying39 (.int .i64 0) 8 Tryd.infoInt8 rfl (by decide) iCell_len iCell_one w.heap.size _ ((l.take i).map Val.k) rfl (HA.out.later (ext_alloc (ext_refl _) _)) _ 1 1 [xk] rfl rfl 0 _ (one_block iCell_len 3 #[.int .i64 xk] xk rfl _ rfl) ?ka ?kb ?kc ?_)
      case ka => rw [HLen.out]; simp [maxLen]; omega
      case kb => rw [HLen.out]; simp; omega
      case kc => (have := HB.out.size; simp; omega)
      intro vv N HOa hba hoa
      have HBN := Lib.hid ((ext_alloc HB.out (.cells #[.int .i64 xk] 3)).trans hba)
      have HO2 := Lib.hid (show OwnK N w.heap.size vv ((l.take (i + 1)).map Val.k) by rw [take_snoc HX.out, List.map_append, List.map_take]; exact HOa)
      clear HOa hba hoa hc0
      go_wp2_with fail
      go_roundw
      case rel => exact ⟨i + 1, by go_num, hlt, HO2.out, HBN.out⟩
      case measure => simp [intOf] <;> omega
    · obtain rfl : i = n := by omega
      have HA2 := Lib.hid (show OwnK V w.heap.size (.slice qo ((l.take i).map Val.k).length co) (l.map Val.k) by have h2 := HA.out; rw [HN.out, List.take_length] at h2 ⊢; exact h2)
      obtain ⟨nn, hnn⟩ : ∃ nn, nn = ((l.take i).map Val.k).length := ⟨_, rfl⟩
      rw [← hnn] at HA2 ⊢
      clear hnn HA
      go_wp2_with fail
      refine bodyPost_ret (v := .slice qo nn co) (by simp [results, Tryd.results31, go_sem]) rfl ⟨_, rfl, HA2.out, HB.out⟩

theorem own_ints {w : World} {base : Nat} {v : Value} {l : List Int} (h : OwnK w base v l) : ∃ q c, v = .slice q l.length c ∧ l.length ≤ c ∧ c ≤ 9223372036854775807 ∧ IntsA w 0 w.heap.size q l := by
  obtain ⟨q, c, h1, h2, h3, -, h5⟩ := OwnF.arr iCell_len h
  refine ⟨q, c, h1, h2, h3, fun i hi => ?_⟩
  obtain ⟨g, off, hq, _, hg, hc⟩ := h5 i hi
  exact ⟨g, off, hq, Nat.zero_le _, hg, fun j x hx => by have := hc j x hx 0 _ rfl; unfold intC; simpa using this⟩
theorem own_lists {w : World} {base T : Nat} {v : Value} {L : List (List Int)} (h : Own2 w base T 3 1 iCell v L) : ∃ q c, v = .slice q L.length c ∧ L.length ≤ c ∧ c ≤ 9223372036854775807 ∧ ListsA w 0 w.heap.size q L := by
  obtain ⟨K, h1, h2, h3⟩ := h
  obtain ⟨q, c, e, h4, h5, -, h6⟩ := OwnF.arr rawCell_len h1
  refine ⟨q, c, by rw [← h2]; exact e, by rw [← h2]; exact h4, h5, fun i hi => ?_⟩
  obtain ⟨g, off, hq, _, hg, hc⟩ := h6 i (by omega)
  refine ⟨g, off, hq, Nat.zero_le _, hg, fun j x hx => ?_⟩
  have hj := (List.getElem?_eq_some_iff.1 hx).1
  have hjr : K[j]? = some (K[j]'(by omega)) := List.getElem?_eq_getElem (by omega)
  obtain ⟨e1, e2⟩ := h3 j _ x hjr hx
  have h8 := hc j _ hjr 0 _ rfl
  obtain ⟨q', c', e3, h9, h10, h11⟩ := own_ints e2
  simp only [Value.slice.injEq] at e3
  obtain ⟨e4, e5, e6⟩ := e3
  rw [e4, e5, e6, Nat.add_zero] at h8
  exact ⟨q', c', h8, h9, h10, h11⟩

/-- Rows, each within the reach. -/
def RowsR (rows : List (List Val)) : Prop := rows.length * 24 ≤ reachBytes ∧ ∀ r ∈ rows, r.length * 32 ≤ reachBytes

theorem Tryd.infoInts8 : (Tryd.prog.info? 39).map (fun i => (i.zero, i.size, i.bytes)) = some (some (.slice none 0 0), 1, 24) := by kernel_rfl

set_option maxHeartbeats 4000000 in
theorem lawkinds_any (q : Option Addr) (l : List (List Val)) (c : Nat) (w : World) (hR : RowsR l) (h : RowsA w 0 w.heap.size q l) : Calls Tryd.prog 30 #[.slice q l.length c] w fun e w' => ∃ v, e = .returned v ∧ Own2 w' w.heap.size 39 3 1 iCell v (kindsOf l) ∧ Below w.heap.size w w' := by
  have HR := Lib.hid hR
  have hlm := hR.1
  unfold reachBytes at hlm
  obtain ⟨n, hn⟩ : ∃ n, n = l.length := ⟨_, rfl⟩
  rw [← hn] at hlm ⊢
  have HN := Lib.hid hn
  have H := Lib.hid h
  clear hn h hR
  go_enter Tryd.func30, Tryd.ntmps30
  go_wp2_with fail
  go_loopw [3, 4] (fun vo vi wr => ∃ i : Nat, vi = .int .i64 i ∧ i ≤ n ∧ Hid (Own2 wr w.heap.size 39 3 1 iCell vo (kindsOf (l.take i))) ∧ Hid (Below w.heap.size w wr)) (fun _ vi _ => n - (intOf vi).toNat)
  case atStart => exact ⟨0, rfl, by omega, Own2.nil _ _ _ _ _ _ _ (OwnF.nil _ _ _), ext_refl _⟩
  case round =>
    obtain ⟨i, rfl, hi, hA, hB⟩ := hrel
    obtain ⟨V, hV⟩ : ∃ V, V = wr := ⟨_, rfl⟩
    rw [← hV] at hA hB
    rw [← hV]
    have HA := Lib.hid hA.out
    have HB := Lib.hid hB.out
    clear hA hB hV
    by_cases hlt : i < n
    · have hil : i < l.length := by rw [← HN.out]; exact hlt
      have hRV := RowsA.same H.out (Same.of HB.out (Nat.le_refl _))
      obtain ⟨g, off, hq, -, hg, p, cc, hc0, hc1, hc2, hc3⟩ := ArrA.at_ hRV hil
      subst hq
      obtain ⟨x, hx⟩ : ∃ x, x = l[i] := ⟨_, rfl⟩
      rw [← hx] at hc0 hc1 hc3
      rw [Nat.mul_one] at hc0
      have HX := Lib.hid (show l[i]? = some x by rw [hx, List.getElem?_eq_getElem hil])
      have HXR := Lib.hid (HR.out.2 x (by rw [hx]; exact List.getElem_mem hil))
      have hgV : g < V.heap.size := Nat.lt_of_lt_of_le hg HB.out.size
      have H3 := Lib.hid (show ValsA V 0 V.heap.size p x from ArrA.wide hc3 (Nat.le_refl _) HB.out.size)
      obtain ⟨K, HK1, hK2, hK3⟩ := HA.out
      have hlen : K.length = i := by rw [hK2, kindsOf, List.length_map, List.length_take]; omega
      have HK2 := Lib.hid hK2
      have HK3 := Lib.hid hK3
      have HK1 := Lib.hid HK1
      have HLen := Lib.hid hlen
      obtain ⟨qo, co, rfl, -, -, -, -⟩ := OwnF.arr rawCell_len HK1.out
      rw [hlen] at HK1 ⊢
      clear hx hg hc1 hc2 hc3 hlen hRV HA hK2 hK3
      go_wp2_with fail
      refine (lawrow_any p x cc V HXR.out H3.out).mono ?_
      rintro e X ⟨v, rfl, hO, hb⟩
      have HBX := Lib.hid (HB.out.trans (hb.mono HB.out.size))
      have HO := Lib.hid (OwnF.base_le hO HB.out.size)
      have HK1X := Lib.hid (HK1.out.later hb)
      have HK3X := Lib.hid (show ∀ (j : Nat) (r : Raw) (l' : List Int), K[j]? = some r → (kindsOf (l.take i))[j]? = some l' → r.2.1 = l'.length ∧ OwnF X w.heap.size 3 1 iCell (.slice r.1 r.2.1 r.2.2) l' from fun j r l' hr hl => ⟨(HK3.out j r l' hr hl).1, (HK3.out j r l' hr hl).2.later hb⟩)
      obtain ⟨qr, cr, rfl, -, -, -⟩ := OwnK.read HO.out
      obtain ⟨nr, hnr⟩ : ∃ nr, nr = (x.map Val.k).length := ⟨_, rfl⟩
      rw [← hnr] at HO ⊢
      have HNR := Lib.hid hnr
      clear hnr hO hb hc0
      go_wp2_with (at_builtin; refine wp_append_flat rfl _ _ 38 39 rfl Tryd.underlying38 (.slice none 0 0) 24 Tryd.infoInts8 rfl (by decide) rawCell_len rawCell_one w.heap.size _ K rfl (HK1X.out.later (ext_alloc (ext_refl _) _)) _ 1 1 [(qr, nr, cr)] rfl rfl 0 _ (one_block rawCell_len 39 #[.slice qr nr cr] (qr, nr, cr) rfl _ rfl) ?ka ?kb ?kc ?_)
      case ka => rw [HLen.out]; simp [maxLen]; omega
      case kb => rw [HLen.out]; simp; omega
      case kc => (have := HBX.out.size; simp; omega)
      intro vv N HOa hba hoa
      have hbn := ext_alloc (ext_refl X) (.cells #[.slice qr nr cr] 39)
      have HBN := Lib.hid ((ext_alloc HBX.out (.cells #[.slice qr nr cr] 39)).trans hba)
      have HO2 := Lib.hid (show Own2 N w.heap.size 39 3 1 iCell vv (kindsOf (l.take (i + 1))) by
        rw [take_snoc HX.out]
        unfold kindsOf
        rw [List.map_append]
        exact Own2.push (by decide) (HK1X.out.later hbn) HK2.out (fun j r l' hr hl => ⟨(HK3X.out j r l' hr hl).1, (HK3X.out j r l' hr hl).2.later hbn⟩) (HO.out.later hbn) HNR.out HOa hoa)
      clear HOa hba hoa hbn
      go_wp2_with fail
      go_roundw
      case rel => exact ⟨i + 1, by go_num, hlt, HO2.out, HBN.out⟩
      case measure => simp [intOf] <;> omega
    · obtain rfl : i = n := by omega
      obtain ⟨vo, hvo⟩ : ∃ vo, vo = u3 := ⟨_, rfl⟩
      rw [← hvo] at HA ⊢
      clear hvo
      have HA2 := Lib.hid (show Own2 V w.heap.size 39 3 1 iCell vo (kindsOf l) by have h2 := HA.out; rw [HN.out, List.take_length] at h2; exact h2)
      go_wp2_with fail
      refine bodyPost_ret (v := vo) (by simp [results, Tryd.results30, go_sem]) rfl ⟨_, rfl, HA2.out, HB.out⟩

end Go.Proofs.YthdnbcdcfaocmaaDoor
