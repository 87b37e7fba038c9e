/- Which texts there are stand rising, each once; their counts are all that there is: whatever the texts. Conditions: none. -/
import Derived.Test.YtinonaiolhgklaaBgE
import Derived.Test.YtinonaiolhgklaaBgO
import Derived.Deep.QuietTactic
import Derived.BigQuiet
namespace Go.Proofs.Ytinonaiolhgklaa
open Go.ChangeShapes Go.WideShapes Go.ChangeAt Go.RowKit Go.Joins Go.Maps
open Go.Proofs (encStr)

theorem sum_cons (K : List Txt) (a : Txt) (t : List Txt) : (K.map fun x => (a :: t).count x).sum = (K.map fun x => t.count x).sum + K.count a := by
  induction K with
  | nil => rfl
  | cons x K ih =>
    rw [List.map_cons, List.map_cons, List.sum_cons, List.sum_cons, ih, List.count_cons, List.count_cons]
    by_cases e : a = x
    · subst e; simp; omega
    · have e' : ¬ x = a := fun k => e k.symm
      simp [e, e']; omega
theorem sum_none (K : List Txt) : (K.map fun x => ([] : List Txt).count x).sum = 0 := by
  induction K with
  | nil => rfl
  | cons x K ih => rw [List.map_cons, List.sum_cons, ih]; rfl
theorem sum_counts {K : List Txt} (hn : K.Nodup) : ∀ (L : List Txt), (∀ s ∈ L, s ∈ K) → (K.map fun x => L.count x).sum = L.length
  | [], _ => sum_none K
  | a :: t, h => by
    rw [sum_cons, sum_counts hn t (fun s hs => h s (by simp [hs])), hn.count, if_pos (h a (by simp))]
    rfl
theorem Kinds.sum {K L : List Txt} (h : Kinds K L) : (K.map fun x => L.count x).sum = L.length := sum_counts h.nodup L fun s hs => (h.mem s).2 hs
theorem sum_take (f : Txt → Nat) (K : List Txt) (i : Nat) (hi : i < K.length) : ((K.take (i + 1)).map f).sum = ((K.take i).map f).sum + f K[i] := by
  rw [List.take_add_one, List.getElem?_eq_getElem hi, List.map_append, List.sum_append]
  simp

theorem bl_eq : ∀ (x y : Txt), Op.bytesLess x y = decide (x < y)
  | [], [] => by simp [Op.bytesLess]
  | _ :: _, [] => by simp [Op.bytesLess]
  | [], _ :: _ => by simp [Op.bytesLess]
  | a :: x, b :: y => by
    rw [Op.bytesLess, bl_eq x y, Bool.eq_iff_iff]
    simp [List.cons_lt_cons_iff]
theorem le_false {x u : Txt} (h : u ≤ x) (hne : u ≠ x) : (Op.bytesLess x u || x == u) = false := by
  rw [bl_eq]
  have h1 : ¬ x < u := List.not_lt.2 h
  simp [h1, Ne.symm hne]
theorem take_sum_le (f : Txt → Nat) (K : List Txt) (i : Nat) : ((K.take i).map f).sum ≤ (K.map f).sum := by
  have h : (K.map f).sum = ((K.take i).map f).sum + ((K.drop i).map f).sum := by
    rw [← List.sum_append, ← List.map_append, List.take_append_drop]
  omega
theorem lst_size {T : Nat → ByteArray} {k : Nat} (hs : ∀ i, i < k → (T i).size ≤ 9223372036854775807) : ∀ s ∈ lst T k, s.length ≤ 9223372036854775807 := by
  intro s h
  obtain ⟨i, hi, rfl⟩ := List.mem_map.1 h
  rw [Array.length_toList]
  exact hs i (List.mem_range.1 hi)

theorem count_drew (p m N : Nat) (L : List Txt) (x : Txt) (w : World) (n : Nat) (hx : x.length ≤ 9223372036854775807) (hB : BagP w p m N L) :
    Calls Try.prog 16 #[.pointer (some ⟨p, 0, none⟩), .string ⟨x.toArray⟩] (w.drewN n) fun e w'' => e = .returned (.int .i64 (L.count x : Int)) ∧ ∃ k, w'' = w.drewN k :=
  Calls.quiet_of_same (count_any p m N L ⟨x.toArray⟩ (w.drewN n) (by show x.toArray.size ≤ _; simpa using hx) (hB.ext (ext_drewN (ext_refl w) n)))

set_option maxRecDepth 100000 in
set_option maxHeartbeats 1000000 in
theorem kinds_walk (q : Option Addr) (n cap k : Nat) (T : Nat → ByteArray) (w : World) (hcap : n ≤ cap) (hn : n ≤ 9223372036854775807) (hm : min (n : Int) 200 = (k : Int)) (hT : TxtP w q k T) (hs : ∀ i, i < k → (T i).size ≤ 9223372036854775807) :
    Calls Try.prog 8 #[.slice q n cap] w fun e w' => e = .returned (.bool true) ∧ Below w.heap.size w w' := by
  have hmn : k ≤ n := by omega
  have hm2 : k ≤ 200 := by omega
  go_enter Try.func8, Try.ntmps8
  go_wp2_with fail
  refine (ex3_any _).mono ?_
  rintro e w1 ⟨rfl, hb1⟩
  have hT1 := hT.ext hb1
  go_wp2_with fail
  refine (of_any q k cap T w1 hT1 (by omega) hs).mono ?_
  rintro e w2 ⟨p, m, rfl, hB, hb2, hp, hmm⟩
  have hE2 := Lib.hid (ext_trans hb1 hb2)
  clear hT hT1 hb1 hb2
  have hLl : (lst T k).reverse.length = k := by rw [List.length_reverse, lst_length]
  have hsz := lst_size hs
  obtain ⟨L, hL⟩ : ∃ L, L = (lst T k).reverse := ⟨_, rfl⟩
  have HSZ := Lib.hid (show ∀ s ∈ L, s.length ≤ 9223372036854775807 from fun s h => hsz s (by rw [hL] at h; simpa using h))
  rw [← hL] at hB hLl
  go_wp2_with fail
  refine (bagKinds_any p m k L w2 hB (by omega)).mono ?_
  rintro e w3 ⟨v, ks, rfl, hK, hO, hb3⟩
  obtain ⟨pk, ck, hv, hck, _, hcs⟩ := hO.src
  subst hv
  have hB3 := hB.ext hb3
  have hE3 := Lib.hid (ext_trans hE2.out hb3)
  have HCS := Lib.hid hcs
  have HK := Lib.hid hK
  have HL := Lib.hid hLl
  have hKn : ks.length ≤ 9223372036854775807 := by unfold maxLen at *; omega
  clear hB hO hcs hK hb3 hE2 hL hLl hsz
  go_wp2_with fail
  go_loopw [6, 7] (fun vn vi wr => ∃ (i : Nat) (y z : Int), vi = .int .i64 y ∧ i ≤ ks.length ∧ vn = .int .i64 z ∧ Hid (y = (i : Int)) ∧ Hid (z = (((ks.take i).map fun x => L.count x).sum : Nat)) ∧ Hid (Below w3.heap.size w3 wr)) (fun _ vi _ => ks.length - (intOf vi).toNat)
  case atStart => exact ⟨0, 0, 0, rfl, Nat.zero_le _, rfl, rfl, rfl, Below.refl _ _⟩
  case round =>
    obtain ⟨i, y, z, rfl, hi, rfl, HY, HZ, HH⟩ := hrel
    by_cases hlt : i < ks.length
    · obtain ⟨g, rfl, hgb, hgl, hc⟩ := HCS.out i hlt
      obtain ⟨x, hx⟩ : ∃ x, x = ks[i] := ⟨_, rfl⟩
      have c0 : wr.cell? ⟨g, i, none⟩ = some (.string ⟨x.toArray⟩) := (HH.out.cell (p := ⟨g, i, none⟩) hgl).trans (hc i x (by rw [hx]; exact List.getElem?_eq_getElem hlt))
      have hB4 := hB3.ext HH.out
      have hxm : x ∈ L := (HK.out.mem x).1 (by rw [hx]; exact List.getElem_mem hlt)
      have hcp : 0 < L.count x := List.count_pos_iff.2 hxm
      have hz1 : ¬ (L.count x : Int) < 1 := by omega
      have hxs : x.length ≤ 9223372036854775807 := HSZ.out x hxm
      have HX := Lib.hid hx
      have HC := Lib.hid hc
      clear hx hxm hc
      have hsum : (((ks.take (i + 1)).map fun x => L.count x).sum : Nat) = ((ks.take i).map fun x => L.count x).sum + L.count x := by rw [sum_take _ ks i hlt, HX.out]
      have htot : ((ks.take (i + 1)).map fun x => L.count x).sum ≤ k := by
        have h1 := take_sum_le (fun x => L.count x) ks (i + 1)
        rw [HK.out.sum, HL.out] at h1
        exact h1
      have hzb : 0 ≤ z ∧ z + (L.count x : Int) ≤ 200 := by have := HZ.out; omega
      have HS := Lib.hid hsum
      clear hsum htot
      obtain ⟨hzb1, hzb2⟩ := hzb
      by_cases h0 : 0 < i
      · obtain ⟨j, rfl⟩ : ∃ j, i = j + 1 := ⟨i - 1, by omega⟩
        have hy : y = (j : Int) + 1 := HY.out
        subst hy
        obtain ⟨u, hu⟩ : ∃ u, u = ks[j] := ⟨_, rfl⟩
        have c1 : wr.cell? ⟨g, j, none⟩ = some (.string ⟨u.toArray⟩) := (HH.out.cell (p := ⟨g, j, none⟩) hgl).trans (HC.out j u (by rw [hu]; exact List.getElem?_eq_getElem (by omega)))
        have hle : (Op.bytesLess x u || x == u) = false := by
          have h := List.pairwise_iff_getElem.1 HK.out.sorted j (j + 1) (by omega) hlt (by omega)
          rw [← hu, ← HX.out] at h
          exact le_false h.1 h.2
        clear hu
        go_wp2_with fail
        have hg0 : decide ((0 : Int) < (j : Int) + 1) = true := decide_eq_true (by omega)
        have hw0 : IntKind.i64.wrap (j : Int) = (j : Int) := by rw [IntKind.wrap_i64]; omega
        go_big_quiet ((go_at_call 16; exact count_drew p m k L x wr _ hxs hB4))
        go_wp2_with fail
        refine (count_any p m k L ⟨x.toArray⟩ _ (by show x.toArray.size ≤ _; simpa using hxs) (hB4.ext (ext_drewN (ext_refl wr) nq))).mono ?_
        rintro e w5 ⟨rfl, rfl⟩
        go_wp2
        go_roundw
        case rel => exact ⟨j + 1 + 1, _, z + (L.count x : Int), rfl, hlt, rfl, by show _ = _; omega, by show _ = _; have := HZ.out; have := HS.out; omega, ext_trans HH.out (ext_drewN (ext_refl wr) nq)⟩
        case measure => simp [intOf] <;> omega
      · have hi0 : i = 0 := by omega
        subst hi0
        have hy : y = 0 := HY.out
        subst hy
        go_wp2_with fail
        go_big_quiet ((go_at_call 16; exact count_drew p m k L x wr _ hxs hB4))
        go_wp2_with fail
        refine (count_any p m k L ⟨x.toArray⟩ _ (by show x.toArray.size ≤ _; simpa using hxs) (hB4.ext (ext_drewN (ext_refl wr) nq))).mono ?_
        rintro e w5 ⟨rfl, rfl⟩
        go_wp2
        go_roundw
        case rel => exact ⟨0 + 1, _, z + (L.count x : Int), rfl, hlt, rfl, by show _ = _; omega, by show _ = _; have := HZ.out; have := HS.out; omega, ext_trans HH.out (ext_drewN (ext_refl wr) nq)⟩
        case measure => simp [intOf] <;> omega
    · have hik : i = ks.length := by omega
      have hz : z = (k : Int) := by
        have h1 := HK.out.sum
        have h2 := HZ.out
        rw [hik, List.take_length] at h2
        rw [HL.out] at h1
        omega
      subst hz
      have hy : y = (ks.length : Int) := by have := HY.out; omega
      subst hy
      have hB4 := hB3.ext HH.out
      clear HZ
      go_wp2_with fail
      refine (len_any p m k L wr hB4).mono ?_
      rintro e w5 ⟨rfl, rfl⟩
      rw [HL.out]
      go_wp2
      go_ret
      exact ⟨rfl, ext_trans hE3.out HH.out⟩

/- FRAME -/

set_option maxRecDepth 100000 in
theorem bagKinds_lifted (os : Os) (started : os.Started) (H : Type) (enc : TypeId × Value → H) :
    ReturnsInHanded {} Try.checked os 8 .any (Rows.bagKindsSpec.pre6 enc Try.prog Try.f8 Rows.bagKindsRow.domain false) (Rows.bagKindsSpec.post enc Try.prog Try.f8 false true false false) := by
  refine returnsInHanded_of_change (C := Try.checked) Try.own started (by kernel_rfl) Try.func8
    (ChangeSpec.witness6 (enc := enc) (C := Try.checked) false ⟨#[], #[.slice none 0 0], []⟩ 8 (by kernel_rfl) (by kernel_rfl) (by kernel_rfl) (by kernel_rfl)) ?_
  intro W base args ds gs before hval0 hW _ _
  have hval : ∀ (j : Nat) t v, Try.f8.params[j]? = some t → args[j]? = some v → Value.okWide Try.prog W .any base t v := hval0
  have hW' := hW
  obtain ⟨p, q, hA0, hV, rfl, _, _⟩ := hW
  have hA : DataW.TrodAll enc Try.prog W 0 (fun _ => true) true Try.f8.params.toList args.toList ds p := hA0
  rw [Try.params8] at hA hval
  obtain ⟨v0, d0, rfl, rfl, h0⟩ := trodAll_one hA
  obtain ⟨q0, n0, c0, T0, rfl, le0, m0, tx0, ts0, td0⟩ := open_texts (hval 0 22 v0 rfl rfl) h0
  clear hA0 hval0
  refine (kinds_walk q0 n0 c0 (min n0 200) T0 W le0 m0 (by omega) (tx0.le (by omega)) (fun i hi => ts0 i (by omega))).mono fun e W' ⟨he, hb⟩ => ⟨_, he, post_law rfl hW' rfl rfl ?_ hb⟩
  intro t ht
  rw [Try.params8] at ht
  simp only [List.mem_cons, List.not_mem_nil, or_false] at ht
  subst ht <;> exact ⟨by kernel_rfl, of_decide_eq_true (by kernel_rfl)⟩

theorem bagKinds_holds : Rows.BagKindsSaid :=
  OpenClaim.holds_of_wide 8 Try.f8 rfl rfl rfl rfl rfl rfl rfl ⟨rfl, rfl, rfl, rfl, rfl⟩ rfl rfl rfl rfl rfl (by kernel_rfl) Try.func8 (by kernel_rfl)
    (of_decide_eq_true (by kernel_rfl)) (by unfold Func.isWrapper; rw [if_neg (of_decide_eq_false (by kernel_rfl))]; exact ⟨rfl, rfl⟩)
    (fun os started H enc _ => bagKinds_lifted os started H enc)

#print axioms bagKinds_holds

end Go.Proofs.Ytinonaiolhgklaa
