/- The places of a list of values, in the order of the values: the index's own generic function. -/
import Derived.Test.YtflbeccfdbjbhaaIxA
namespace Go.Proofs.Ytflbeccfdbjbhaa
open Go.RowKit
open Go.Sort (swp PermIn SortedIn SWO Ins)
set_option maxRecDepth 100000

theorem sortStable_any (R : Rws) (W0 : World) (g cap : Nat) (d : Array Nat) (w : World) (hok : R.ok W0) (S : SW R W0 g d w) (hsz : d.size ≤ 1073741824) (hA : ∀ t, t < d.size → d[t]! = t) :
    Calls Try.prog 25 #[.slice (some ⟨g, 0, none⟩) d.size cap, .func (.func 26) #[] #[R.c1, R.c2]] w fun e w' => e = .returned (.tuple #[]) ∧ ∃ d', SW R W0 g d' w' ∧ PermIn 0 d.size d d' ∧ SortedIn R.lt 0 d.size d' := by
  go_enter Try.func25, Try.ntmps25
  go_wp2_with fail
  refine (stable_any R W0 g cap d w R.swo hok S hsz hA).mono ?_
  rintro _ w1 ⟨rfl, d', h⟩
  go_wp2
  go_end0
  exact ⟨rfl, d', h⟩

theorem flat_nums (l : List Int) : l.flatMap numCell = l.map (Value.int .i64) := by
  induction l with
  | nil => rfl
  | cons a l ih => rw [List.flatMap_cons, ih]; rfl
theorem toInts_get {l : List Nat} {i : Nat} {x : Int} (h : (toInts l)[i]? = some x) : ∃ n, l[i]? = some n ∧ x = (n : Int) := by
  unfold toInts at h
  rw [List.getElem?_map] at h
  cases e : l[i]? with
  | none => rw [e] at h; cases h
  | some n => rw [e] at h; exact ⟨n, rfl, by simpa using h.symm⟩
theorem toInts_len (l : List Nat) : (toInts l).length = l.length := List.length_map _
theorem range_size (n : Nat) : (Array.range n).size = n := by simp
theorem range_at {n t : Nat} (h : t < n) : (Array.range n)[t]! = t := by
  rw [getElem!_pos _ _ (by simpa using h)]
  simp
theorem bang_get {d : Array Nat} {j : Nat} (h : j < d.size) : d.toList[j]? = some d[j]! := by
  rw [getElem!_pos d j h]
  simp [h]

/-- Numbers of the call's own, as the sort holds them. -/
theorem OwnF.sw {R : Rws} {W0 w : World} {g n c : Nat} {d : Array Nat} (h : OwnN w W0.heap.size (.slice (some ⟨g, 0, none⟩) n c) (toInts d.toList)) (hb : Below W0.heap.size W0 w) (hn : ∀ j, j < d.size → d[j]! < R.n) : SW R W0 g d w := by
  obtain ⟨h1, h2⟩ := h
  rcases h2 with ⟨h2, _⟩ | ⟨g', cap, cur, hv, hg, hh, hn', hm, hc, ht⟩
  · cases h2
  · simp only [Value.slice.injEq, Option.some.injEq, Addr.mk.injEq, and_true] at hv
    obtain ⟨rfl, e1, rfl⟩ := hv
    rw [toInts_len] at e1 hn' ht
    have hds : d.toList.length = d.size := Array.length_toList
    refine ⟨hb, hg, ⟨cur, hh, by omega, fun j hj => ?_⟩, hn⟩
    have := congrArg (fun l => l[j]?) ht
    simp only [flat_nums, List.getElem?_take, List.getElem?_map, bang_get hj, Option.map_some] at this
    rw [if_pos (by omega)] at this
    rw [← Array.getElem?_toList, this]
theorem SW.ints {R : Rws} {W0 w : World} {g c : Nat} {d : Array Nat} (h : SW R W0 g d w) (h1 : d.size ≤ c) (h2 : c ≤ 9223372036854775807) {base : Nat} (hb : base ≤ W0.heap.size) : OwnInts w base (some ⟨g, 0, none⟩) c (toInts d.toList) := by
  refine ⟨by rw [toInts_len, Array.length_toList]; exact h1, h2, fun i hi => ⟨g, 0, rfl, Nat.le_trans hb h.new, h.lt, fun j x hx => ?_⟩, fun _ g' off e o => ?_⟩
  · obtain ⟨n, hn, rfl⟩ := toInts_get hx
    have hj : j < d.size := by have := (List.getElem?_eq_some_iff.1 hn).1; simpa using this
    rw [bang_get hj] at hn
    cases hn
    have := h.cell j hj
    unfold intC
    rw [Nat.mul_one, Nat.zero_add]
    exact this
  · obtain ⟨rfl, rfl⟩ : g = g' ∧ 0 = off := by simpa using e
    exact h.frozen o

/-- What has been put in order, and stably, is all the places in the order of their values. -/
theorem sorted_allP {l : List Val} {R : Rws} {d : Array Nat} (hx : R.x = valAt l) (hs : d.size = l.length) (P : PermIn 0 l.length (Array.range l.length) d) (so : SortedIn R.lt 0 l.length d) : d.toList = allP l := by
  have hp : d.toList.Perm (List.range l.length) := by
    have := P.2.2
    rw [Array.extract_eq_self_of_le (by omega), Array.extract_eq_self_of_le (by simp)] at this
    simpa using this
  refine allP_only hp (List.pairwise_iff_getElem.2 fun i j hi hj hij => ?_)
  have hnd : d.toList.Nodup := hp.nodup_iff.2 List.nodup_range
  have hi' : i < d.size := by simpa using hi
  have hj' : j < d.size := by simpa using hj
  have hne : d.toList[i] ≠ d.toList[j] := List.pairwise_iff_getElem.1 hnd i j hi hj hij
  have e1 : d[i]! = d.toList[i] := by rw [getElem!_pos d i hi']; simp
  have e2 : d[j]! = d.toList[j] := by rw [getElem!_pos d j hj']; simp
  have h := so i j (Nat.zero_le _) hij (by omega)
  rw [R.not_lt, e1, e2] at h
  unfold Rws.cf at h
  rw [hx] at h
  unfold IxLt
  have ha := cmp_anti (valAt l d.toList[i]) (valAt l d.toList[j])
  omega

set_option maxHeartbeats 2000000 in
theorem ordered_any (l : List Val) (q : Option Addr) (c lo hi : Nat) (w : World) (hc : l.length ≤ c) (hc2 : c ≤ 9223372036854775807) (hl : l.length ≤ 1000000) (hV : ValsA w lo hi q l) (hh : hi ≤ w.heap.size) :
    Calls Try.prog 15 #[.slice q l.length c, .func (.func 11) #[] #[]] w fun e w' => (∃ q' c', e = .returned (.slice q' l.length c') ∧ OwnInts w' w.heap.size q' c' (toInts (allP l))) ∧ Below w.heap.size w w' := by
  obtain ⟨i0, hi0, hz0, hz1, hz2⟩ := info_parts Try.infoIntX
  obtain ⟨W0, hW0⟩ : ∃ W0, W0 = (w.alloc (.cells #[.slice q l.length c] 22)).alloc (.cells #[.func (.func 11) #[] #[]] 36) := ⟨_, rfl⟩
  have hB0 : Below w.heap.size w W0 := by rw [hW0]; (repeat (first | exact ext_refl _ | assumption | (refine ext_alloc ?_ _) | (refine ext_drewN ?_ _) | refine ext_drew ?_ | (refine ext_set (by first | (simp; done) | (simp; omega)) _ ?_) | (refine ext_trans ?_ (by assumption))))
  have hz : w.heap.size + 1 < W0.heap.size := by rw [hW0]; simp
  have b0 : W0.cell? ⟨w.heap.size, 0, none⟩ = some (.slice q l.length c) := by rw [hW0]; simp [go_sem]
  have b1 : W0.cell? ⟨w.heap.size + 1, 0, none⟩ = some (.func (.func 11) #[] #[]) := by rw [hW0]; simp [go_sem]
  have HW := Lib.hid hW0
  have V0 := hV.same (Same.of hB0 hh)
  have OK := Lib.hid (show Rws.ok ⟨l.length, valAt l, .pointer (some ⟨w.heap.size + 1, 0, none⟩), .pointer (some ⟨w.heap.size, 0, none⟩)⟩ W0 from ⟨fun i k hi' hk' W' hb => ordFn_any l i k (w.heap.size + 1) w.heap.size c lo hi q W' hi' hk' hc hc2 ((hb.cell (p := ⟨w.heap.size + 1, 0, none⟩) (show w.heap.size + 1 < W0.heap.size by omega)).trans b1) ((hb.cell (p := ⟨w.heap.size, 0, none⟩) (show w.heap.size < W0.heap.size by omega)).trans b0) (V0.same (Same.of hb (by omega))) (Nat.le_trans (by omega) hb.size)⟩)
  have HB0 := Lib.hid hB0
  clear hV V0 hW0 hB0
  go_enter Try.func15, Try.ntmps15
  go_upto_region 1 with fail
  rw [← HW.out]
  clear HW
  go_wp2_with (refine wpList_make_own _ rfl _ _ 31 rfl W0.heap.size 3 i0 _ 1 Try.underlying31 hi0 hz0 hz1 .i64 .i64 (l.length : Int) l.length rfl rfl rfl ?k1 ?k2 (Nat.le_refl _) ?_)
  case k1 => rw [hz2]; omega
  case k2 => unfold maxLen; omega
  intro w1 O1 g1
  have hB1 : Below W0.heap.size W0 w1 := (Below.refl _ _).grown g1 (Nat.le_refl _) (fun k hk => by cases hk)
  have c0 : w1.cell? ⟨w.heap.size, 0, none⟩ = some (.slice q l.length c) := (hB1.cell (p := ⟨w.heap.size, 0, none⟩) (show w.heap.size < W0.heap.size by omega)).trans b0
  have HO := Lib.hid (show OwnN w1 W0.heap.size (.slice (some ⟨W0.heap.size, 0, none⟩) 0 l.length) [] from O1)
  have HB := Lib.hid hB1
  have HC0 := Lib.hid b0
  clear O1 g1 b0 b1 hB1
  go_wp2_with fail
  clear c0
  go_loopw [12, 5] (fun vi vo wr => ∃ i : Nat, vi = .int .i64 i ∧ i ≤ l.length ∧ (∃ (g k : Nat), vo = .slice (some ⟨g, 0, none⟩) i k) ∧ Hid (OwnN wr W0.heap.size vo (toInts (List.range i)) ∧ Below W0.heap.size W0 wr)) (fun vi _ _ => l.length - (intOf vi).toNat)
  case atStart => exact ⟨0, rfl, Nat.zero_le _, ⟨_, _, rfl⟩, HO.out, HB.out⟩
  case round =>
    obtain ⟨i, rfl, hi, ⟨g0, k0, rfl⟩, HH⟩ := hrel
    clear HB HO
    obtain ⟨V, hV⟩ : ∃ V, V = wr := ⟨_, rfl⟩
    subst hV
    have hsV := HH.out.2.size
    by_cases hlt : i < l.length
    · have hb2 : Below V.heap.size V (V.alloc (.cells #[.int .i64 (i : Int)] 3)) := by (repeat (first | exact ext_refl _ | assumption | (refine ext_alloc ?_ _) | (refine ext_drewN ?_ _) | refine ext_drew ?_ | (refine ext_set (by first | (simp; done) | (simp; omega)) _ ?_) | (refine ext_trans ?_ (by assumption))))
      have OO := Lib.hid (show OwnN (V.alloc (.cells #[.int .i64 (i : Int)] 3)) W0.heap.size (.slice (some ⟨g0, 0, none⟩) i k0) (toInts (List.range i)) from HH.out.1.later hb2)
      have HR1 := Lib.hid (one_block (W := V) numCell_len 3 #[.int .i64 (i : Int)] (i : Int) rfl V.heap.size rfl)
      have HE := Lib.hid (show Below W0.heap.size W0 (V.alloc (.cells #[.int .i64 (i : Int)] 3)) from HH.out.2.trans (hb2.mono hsV))
      clear hb2
      go_wp2_with (at_builtin; refine wp_append_flat rfl _ _ 31 3 rfl Try.underlying31 _ 8 Try.infoIntX rfl (by omega) numCell_len numCell_one W0.heap.size _ (toInts (List.range i)) rfl OO.out _ _ _ [(i : Int)] rfl rfl 0 (V.heap.size + 1) HR1.out ?l1 ?l2 HE.out.size ?_)
      case l1 => unfold maxLen; simp; omega
      case l2 => simp; omega
      intro v3 w3 O3 b3 o3
      have e3 : toInts (List.range i) ++ [(i : Int)] = toInts (List.range (i + 1)) := by simp [toInts, List.range_succ]
      rw [e3] at O3
      obtain ⟨q3, c3, rfl, -⟩ := O3.arr numCell_len
      obtain ⟨g3, rfl, -⟩ := O3.at_ (by simp)
      have e4 : (toInts (List.range (i + 1))).length = i + 1 := by simp
      rw [e4] at O3
      have NX := Lib.hid (And.intro O3 (HE.out.trans b3))
      clear O3 b3 o3 OO HR1 HE e3 e4
      go_wp2
      go_roundw
      case rel =>
        have e5 : (toInts (List.range (i + 1))).length = i + 1 := by simp
        rw [e5]
        exact ⟨i + 1, by go_num, hlt, ⟨g3, c3, rfl⟩, NX.out⟩
      case measure => simp [intOf] <;> omega
    · obtain rfl : i = l.length := by omega
      have hlist : (Array.range l.length).toList = List.range l.length := by simp
      have S : SW ⟨l.length, valAt l, .pointer (some ⟨w.heap.size + 1, 0, none⟩), .pointer (some ⟨w.heap.size, 0, none⟩)⟩ W0 g0 (Array.range l.length) V := OwnF.sw (n := l.length) (c := k0) (by rw [hlist]; exact HH.out.1) HH.out.2 (fun j hj => by rw [range_at (by simpa using hj)]; simpa using hj)
      obtain ⟨hk0, hk1⟩ : l.length ≤ k0 ∧ k0 ≤ 9223372036854775807 := by
        obtain ⟨q', c', e, h1, h2, _⟩ := HH.out.1.arr numCell_len
        simp only [Value.slice.injEq] at e
        obtain ⟨-, e1, rfl⟩ := e
        omega
      have ST := Lib.hid (sortStable_any _ W0 g0 k0 (Array.range l.length) V OK.out S (by simp; omega) (fun t ht => range_at (by simpa using ht)))
      clear S hlist
      go_wp2_with fail
      have hc := ST.out
      rw [range_size] at hc
      refine hc.mono ?_
      rintro _ w4 ⟨rfl, d', S', P', so'⟩
      have hds : d'.size = l.length := by have := P'.1; simpa using this
      have EA := sorted_allP (R := ⟨l.length, valAt l, .pointer (some ⟨w.heap.size + 1, 0, none⟩), .pointer (some ⟨w.heap.size, 0, none⟩)⟩) rfl hds P' so'
      have RES := Lib.hid (show OwnInts w4 w.heap.size (some ⟨g0, 0, none⟩) k0 (toInts (allP l)) by rw [← EA]; exact S'.ints (by omega) hk1 (by omega))
      have BE := Lib.hid (show Below w.heap.size w w4 from HB0.out.trans (S'.below.mono (by omega)))
      clear S' P' so' EA hc ST
      go_wp2
      go_ret
      exact ⟨⟨_, _, rfl, RES.out⟩, BE.out⟩

end Go.Proofs.Ytflbeccfdbjbhaa
