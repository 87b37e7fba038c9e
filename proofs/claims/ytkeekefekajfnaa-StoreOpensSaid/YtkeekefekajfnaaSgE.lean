/- Copies: of a list in memory of its own, of lists of lists; whether there is an element at a place. -/
import Derived.Test.YtkeekefekajfnaaStC
import Derived.Test.YtkeekefekajfnaaFlat
import Derived.Deep.OwnRows
namespace Go.Proofs.Ytkeekefekajfnaa
open Go.RowKit
set_option maxRecDepth 100000

theorem Try.infoInt5 : (Try.prog.info? 3).map (fun i => (i.zero, i.size, i.bytes)) = some (some (.int .i64 0), 1, 8) := by kernel_rfl
abbrev intCell (x : Int) : List Value := [.int .i64 x]
theorem intCell_len (x : Int) : (intCell x).length = 1 := rfl
theorem intCell_one (x : Int) (u : Value) (h : u ∈ intCell x) : u.oneCell' = true := by simp at h; rw [h]; rfl
theorem intsA_flat {w : World} {lo hi : Nat} {q : Option Addr} {l : List Int} (h : IntsA w lo hi q l) : ArrA lo hi q 1 l (fun g o x => ∀ (k : Nat) u, (intCell x)[k]? = some u → w.cell? ⟨g, o + k, none⟩ = some u) :=
  ArrA.imp h fun _ _ _ _ _ h k u hk => by
    have : k = 0 := by have := (List.getElem?_eq_some_iff.1 hk).1; simp at this; omega
    subst this
    simp at hk
    subst hk
    exact h
theorem flat_intsA {w : World} {lo hi : Nat} {q : Option Addr} {l : List Int} (h : ArrA lo hi q 1 l (fun g o x => ∀ (k : Nat) u, (intCell x)[k]? = some u → w.cell? ⟨g, o + k, none⟩ = some u)) : IntsA w lo hi q l :=
  ArrA.imp h fun _ _ _ _ _ h => h 0 _ rfl

theorem Try.infoVal5 : (Try.prog.info? 37).map (fun i => (i.zero, i.size, i.bytes)) = some (some (.agg #[.int .i64 0, .int .i64 0, .string ⟨#[]⟩]), 3, 32) := by kernel_rfl
abbrev valCell (x : Val) : List Value := [.int .i64 x.k, .int .i64 x.n, .string x.s]
theorem valCell_len (x : Val) : (valCell x).length = 3 := rfl
theorem valCell_one (x : Val) (u : Value) (h : u ∈ valCell x) : u.oneCell' = true := by simp at h; rcases h with rfl | rfl | rfl <;> rfl
theorem valsA_flat {w : World} {lo hi : Nat} {q : Option Addr} {l : List Val} (h : ValsA w lo hi q l) : ArrA lo hi q 3 l (fun g o x => ∀ (k : Nat) u, (valCell x)[k]? = some u → w.cell? ⟨g, o + k, none⟩ = some u) :=
  ArrA.imp h fun _ _ _ _ _ h k u hk => by
    match k, hk with
    | 0, hk => simp at hk; subst hk; exact h.1
    | 1, hk => simp at hk; subst hk; exact h.2.1
    | 2, hk => simp at hk; subst hk; exact h.2.2
    | k + 3, hk => simp at hk
theorem flat_valsA {w : World} {lo hi : Nat} {q : Option Addr} {l : List Val} (h : ArrA lo hi q 3 l (fun g o x => ∀ (k : Nat) u, (valCell x)[k]? = some u → w.cell? ⟨g, o + k, none⟩ = some u)) : ValsA w lo hi q l :=
  ArrA.imp h fun _ _ _ _ _ h => ⟨h 0 _ rfl, h 1 _ rfl, h 2 _ rfl⟩

theorem Try.infoCol5 : (Try.prog.info? 39).map (fun i => (i.zero, i.size, i.bytes)) = some (some (.agg #[.string ⟨#[]⟩, .int .i64 0]), 2, 24) := by kernel_rfl
abbrev colCell (x : Col) : List Value := [.string x.nm, .int .i64 x.kd]
theorem colCell_len (x : Col) : (colCell x).length = 2 := rfl
theorem colCell_one (x : Col) (u : Value) (h : u ∈ colCell x) : u.oneCell' = true := by simp at h; rcases h with rfl | rfl <;> rfl
theorem colsA_flat {w : World} {lo hi : Nat} {q : Option Addr} {l : List Col} (h : ColsA w lo hi q l) : ArrA lo hi q 2 l (fun g o x => ∀ (k : Nat) u, (colCell x)[k]? = some u → w.cell? ⟨g, o + k, none⟩ = some u) :=
  ArrA.imp h fun _ _ _ _ _ h k u hk => by
    match k, hk with
    | 0, hk => simp at hk; subst hk; exact h.1.1
    | 1, hk => simp at hk; subst hk; exact h.1.2
    | k + 2, hk => simp at hk
theorem ArrA.with_ {α : Type} {lo hi : Nat} {q : Option Addr} {sz : Nat} {l : List α} {P : Nat → Nat → α → Prop} {R : α → Prop} (h : ArrA lo hi q sz l P) (hR : ∀ x ∈ l, R x) : ArrA lo hi q sz l (fun g o x => P g o x ∧ R x) := fun i hi => by
  obtain ⟨g, off, h1, h2, h3, h4⟩ := h i hi
  exact ⟨g, off, h1, h2, h3, fun j x hx => ⟨h4 j x hx, hR x (List.mem_of_getElem? hx)⟩⟩
theorem ColsA.names {w : World} {lo hi : Nat} {q : Option Addr} {l : List Col} (h : ColsA w lo hi q l) : ∀ x ∈ l, x.nm.size ≤ 9223372036854775807 := fun x hx => by
  obtain ⟨i, hi⟩ := List.getElem?_of_mem hx
  obtain ⟨g, off, _, _, _, h4⟩ := h i (List.getElem?_eq_some_iff.1 hi).1
  exact (h4 i x hi).2
theorem flat_colsA {w : World} {lo hi : Nat} {q : Option Addr} {l : List Col} (hn : ∀ x ∈ l, x.nm.size ≤ 9223372036854775807) (h : ArrA lo hi q 2 l (fun g o x => ∀ (k : Nat) u, (colCell x)[k]? = some u → w.cell? ⟨g, o + k, none⟩ = some u)) : ColsA w lo hi q l :=
  ArrA.imp (h.with_ hn) fun _ _ _ _ _ h => ⟨⟨h.1 0 _ rfl, h.1 1 _ rfl⟩, h.2⟩

/-- Two things of different element types lie in different blocks. -/
theorem OwnF.apart {α β : Type} {ca : α → List Value} {cb : β → List Value} {sa sb : Nat} {w : World} {b b' : Nat} {E E' : TypeId} {v v' : Value} {l : List α} {l' : List β} (h : OwnF w b E sa ca v l) (h' : OwnF w b' E' sb cb v' l') (hE : E ≠ E') (k : Nat) (hk : v.ownBlock = some k) : v'.ownBlock ≠ some k := by
  obtain ⟨_, h⟩ := h
  obtain ⟨_, h'⟩ := h'
  rcases h with ⟨rfl, _⟩ | ⟨g, cap, cur, rfl, _, hg, _⟩
  · cases hk
  · rcases h' with ⟨rfl, _⟩ | ⟨g', cap', cur', rfl, _, hg', _⟩
    · exact fun e => by cases e
    · intro e
      have e1 : g = k := by simpa [Value.ownBlock] using hk
      have e2 : g' = k := by simpa [Value.ownBlock] using e
      rw [e1] at hg
      rw [e2, hg] at hg'
      have : E = E' := by injection hg' with h; injection h
      exact hE this

set_option maxHeartbeats 1000000 in
theorem copiedV_any (l : List Val) (p : Option Addr) (c lo hi : Nat) (w : World) (hl : l.length * 32 ≤ 140737488355328) (hR : ValsA w lo hi p l) (hh : hi ≤ w.heap.size) :
    Calls Try.prog 34 #[.slice p l.length c] w fun e w' => ∃ q c', e = .returned (.slice q l.length c') ∧ OwnF w' w.heap.size 37 3 valCell (.slice q l.length c') l ∧ Below w.heap.size w w' := by
  obtain ⟨i0, hi0, hz0, hz1, hz2⟩ := info_parts Try.infoVal5
  have HR := Lib.hid hR
  clear hR
  go_enter Try.func34, Try.ntmps34
  go_wp2_with (refine wpList_make_own _ rfl _ _ 31 rfl w.heap.size 37 i0 _ 3 Try.underlying31 hi0 hz0 hz1 .i64 .i64 (l.length : Int) l.length rfl rfl rfl ?k1 ?k2 (Nat.le_refl _) ?_)
  case k1 => rw [hz2]; omega
  case k2 => unfold maxLen; omega
  intro w1 O1 g1
  have HB := Lib.hid (show Below w.heap.size w w1 from (Below.refl _ _).grown g1 (Nat.le_refl _) (fun k hk => by cases hk))
  have HO := Lib.hid (show OwnF w1 w.heap.size 37 3 valCell (.slice (some ⟨w.heap.size, 0, none⟩) 0 l.length) [] from O1)
  clear O1 g1
  go_wp2_with (at_builtin; refine wp_append_flat rfl _ _ 31 37 rfl Try.underlying31 _ 32 Try.infoVal5 rfl (by omega) valCell_len valCell_one w.heap.size _ [] rfl HO.out _ _ _ l rfl rfl lo hi (valsA_flat (HR.out.same (Same.of HB.out hh))) ?l1 ?l2 HB.out.size ?_)
  case l1 => unfold maxLen; simp; omega
  case l2 => simp; omega
  intro v2 w2 O2 b2 _
  have O2 : OwnF w2 w.heap.size 37 3 valCell v2 l := O2
  obtain ⟨q2, c2, rfl, hl2, hm2, -, -⟩ := O2.arr valCell_len
  have H2 := Lib.hid (And.intro O2 (HB.out.trans b2))
  clear O2 b2
  go_wp2
  go_ret
  exact ⟨q2, c2, rfl, H2.out.1, H2.out.2⟩

set_option maxHeartbeats 1000000 in
theorem copiedC_any (l : List Col) (p : Option Addr) (c lo hi : Nat) (w : World) (hl : l.length * 24 ≤ 140737488355328) (hR : ColsA w lo hi p l) (hh : hi ≤ w.heap.size) :
    Calls Try.prog 30 #[.slice p l.length c] w fun e w' => ∃ q c', e = .returned (.slice q l.length c') ∧ OwnF w' w.heap.size 39 2 colCell (.slice q l.length c') l ∧ Below w.heap.size w w' := by
  obtain ⟨i0, hi0, hz0, hz1, hz2⟩ := info_parts Try.infoCol5
  have HR := Lib.hid hR
  clear hR
  go_enter Try.func30, Try.ntmps30
  go_wp2_with (refine wpList_make_own _ rfl _ _ 27 rfl w.heap.size 39 i0 _ 2 Try.underlying27 hi0 hz0 hz1 .i64 .i64 (l.length : Int) l.length rfl rfl rfl ?k1 ?k2 (Nat.le_refl _) ?_)
  case k1 => rw [hz2]; omega
  case k2 => unfold maxLen; omega
  intro w1 O1 g1
  have HB := Lib.hid (show Below w.heap.size w w1 from (Below.refl _ _).grown g1 (Nat.le_refl _) (fun k hk => by cases hk))
  have HO := Lib.hid (show OwnF w1 w.heap.size 39 2 colCell (.slice (some ⟨w.heap.size, 0, none⟩) 0 l.length) [] from O1)
  clear O1 g1
  go_wp2_with (at_builtin; refine wp_append_flat rfl _ _ 27 39 rfl Try.underlying27 _ 24 Try.infoCol5 rfl (by omega) colCell_len colCell_one w.heap.size _ [] rfl HO.out _ _ _ l rfl rfl lo hi (colsA_flat (HR.out.same (Same.of HB.out hh))) ?l1 ?l2 HB.out.size ?_)
  case l1 => unfold maxLen; simp; omega
  case l2 => simp; omega
  intro v2 w2 O2 b2 _
  have O2 : OwnF w2 w.heap.size 39 2 colCell v2 l := O2
  obtain ⟨q2, c2, rfl, hl2, hm2, -, -⟩ := O2.arr colCell_len
  have H2 := Lib.hid (And.intro O2 (HB.out.trans b2))
  clear O2 b2
  go_wp2
  go_ret
  exact ⟨q2, c2, rfl, H2.out.1, H2.out.2⟩

set_option maxHeartbeats 1000000 in
theorem copiedI_any (l : List Int) (p : Option Addr) (c lo hi : Nat) (w : World) (hl : l.length * 8 ≤ 140737488355328) (hR : IntsA w lo hi p l) (hh : hi ≤ w.heap.size) :
    Calls Try.prog 52 #[.slice p l.length c] w fun e w' => ∃ q c', e = .returned (.slice q l.length c') ∧ OwnF w' w.heap.size 3 1 intCell (.slice q l.length c') l ∧ Below w.heap.size w w' := by
  obtain ⟨i0, hi0, hz0, hz1, hz2⟩ := info_parts Try.infoInt5
  have HR := Lib.hid hR
  clear hR
  go_enter Try.func52, Try.ntmps52
  go_wp2_with (refine wpList_make_own _ rfl _ _ 50 rfl w.heap.size 3 i0 _ 1 Try.underlying50 hi0 hz0 hz1 .i64 .i64 (l.length : Int) l.length rfl rfl rfl ?k1 ?k2 (Nat.le_refl _) ?_)
  case k1 => rw [hz2]; omega
  case k2 => unfold maxLen; omega
  intro w1 O1 g1
  have HB := Lib.hid (show Below w.heap.size w w1 from (Below.refl _ _).grown g1 (Nat.le_refl _) (fun k hk => by cases hk))
  have HO := Lib.hid (show OwnF w1 w.heap.size 3 1 intCell (.slice (some ⟨w.heap.size, 0, none⟩) 0 l.length) [] from O1)
  clear O1 g1
  go_wp2_with (at_builtin; refine wp_append_flat rfl _ _ 50 3 rfl Try.underlying50 _ 8 Try.infoInt5 rfl (by omega) intCell_len intCell_one w.heap.size _ [] rfl HO.out _ _ _ l rfl rfl lo hi (intsA_flat (HR.out.same (Same.of HB.out hh))) ?l1 ?l2 HB.out.size ?_)
  case l1 => unfold maxLen; simp; omega
  case l2 => simp; omega
  intro v2 w2 O2 b2 _
  have O2 : OwnF w2 w.heap.size 3 1 intCell v2 l := O2
  obtain ⟨q2, c2, rfl, hl2, hm2, -, -⟩ := O2.arr intCell_len
  have H2 := Lib.hid (And.intro O2 (HB.out.trans b2))
  clear O2 b2
  go_wp2
  go_ret
  exact ⟨q2, c2, rfl, H2.out.1, H2.out.2⟩

/-- A slice as it is held. -/
abbrev Raw := Option Addr × Nat × Nat
abbrev rawCell (r : Raw) : List Value := [.slice r.1 r.2.1 r.2.2]
theorem rawCell_len (r : Raw) : (rawCell r).length = 1 := rfl
theorem rawCell_one (r : Raw) (u : Value) (h : u ∈ rawCell r) : u.oneCell' = true := by simp at h; rw [h]; rfl

/-- A slice of slices, each of the call's own. -/
structure Own2 {α : Type} (w : World) (base : Nat) (T E sz : Nat) (cells : α → List Value) (v : Value) (L : List (List α)) : Prop where
  outer : ∃ K : List Raw, OwnF w base T 1 rawCell v K ∧ K.length = L.length ∧ ∀ (j : Nat) (r : Raw) (l : List α), K[j]? = some r → L[j]? = some l → r.2.1 = l.length ∧ OwnF w base E sz cells (.slice r.1 r.2.1 r.2.2) l
theorem Own2.nil {α : Type} (w : World) (base T E sz : Nat) (cells : α → List Value) (v : Value) (h : OwnF w base T 1 rawCell v []) : Own2 w base T E sz cells v [] := ⟨[], h, rfl, fun j r l h => by simp at h⟩
theorem Own2.later {α : Type} {w w' : World} {base T E sz : Nat} {cells : α → List Value} {v : Value} {L : List (List α)} (h : Own2 w base T E sz cells v L) (hb : Below w.heap.size w w') : Own2 w' base T E sz cells v L := by
  obtain ⟨K, h1, h2, h3⟩ := h
  exact ⟨K, h1.later hb, h2, fun j r l hr hl => ⟨(h3 j r l hr hl).1, (h3 j r l hr hl).2.later hb⟩⟩
/-- One more, appended. -/
theorem Own2.push {α : Type} {w w' : World} {base T E sz : Nat} {cells : α → List Value} {v v' : Value} {L : List (List α)} {K : List Raw} {q : Option Addr} {n c : Nat} {l : List α} (hT : T ≠ E) (h1 : OwnF w base T 1 rawCell v K) (h2 : K.length = L.length)
    (h3 : ∀ (j : Nat) (r : Raw) (l : List α), K[j]? = some r → L[j]? = some l → r.2.1 = l.length ∧ OwnF w base E sz cells (.slice r.1 r.2.1 r.2.2) l) (hn : OwnF w base E sz cells (.slice q n c) l) (hnl : n = l.length)
    (h' : OwnF w' base T 1 rawCell v' (K ++ [(q, n, c)])) (o : Out (fun k => v.ownBlock = some k) w w') : Own2 w' base T E sz cells v' (L ++ [l]) := by
  refine ⟨_, h', by simp [h2], fun j r x hr hx => ?_⟩
  by_cases hj : j < K.length
  · rw [List.getElem?_append_left hj] at hr
    rw [List.getElem?_append_left (by omega)] at hx
    obtain ⟨e, hk⟩ := h3 j r x hr hx
    exact ⟨e, hk.kept o fun k hk' => h1.apart hk hT k hk'⟩
  · have hjk : j = K.length := by
      have := (List.getElem?_eq_some_iff.1 hr).1
      simp at this
      omega
    rw [hjk, List.getElem?_append_right (Nat.le_refl _), Nat.sub_self] at hr
    rw [hjk, h2, List.getElem?_append_right (Nat.le_refl _), Nat.sub_self] at hx
    simp at hr hx
    subst hr hx
    exact ⟨hnl, hn.kept o fun k hk' => h1.apart hn hT k hk'⟩

theorem Try.infoRow5 : (Try.prog.info? 31).map (fun i => (i.zero, i.size, i.bytes)) = some (some (.slice none 0 0), 1, 24) := by kernel_rfl
set_option maxHeartbeats 2000000 in
theorem copiedRowsV_any (L : List (List Val)) (p : Option Addr) (c bl bh : Nat) (w : World) (hL : L.length * 24 ≤ 140737488355328) (hc : L.length ≤ c) (hc2 : c ≤ 9223372036854775807) (hx : ∀ r ∈ L, r.length * 32 ≤ 140737488355328) (hR : RowsA w bl bh p L) (hh : bh ≤ w.heap.size) :
    Calls Try.prog 31 #[.slice p L.length c] w fun e w' => ∃ q c', e = .returned (.slice q L.length c') ∧ Own2 w' w.heap.size 31 37 3 valCell (.slice q L.length c') L ∧ Below w.heap.size w w' := by
  obtain ⟨i0, hi0, hz0, hz1, hz2⟩ := info_parts Try.infoRow5
  have HR := Lib.hid hR
  have HX := Lib.hid hx
  clear hR hx
  go_enter Try.func31, Try.ntmps31
  go_wp2_with (refine wpList_make_own _ rfl _ _ 28 rfl w.heap.size 31 i0 _ 1 Try.underlying28 hi0 hz0 hz1 .i64 .i64 (L.length : Int) L.length rfl rfl rfl ?k1 ?k2 (Nat.le_refl _) ?_)
  case k1 => rw [hz2]; omega
  case k2 => unfold maxLen; omega
  intro w1 O1 g1
  have HB := Lib.hid (show Below w.heap.size w w1 from (Below.refl _ _).grown g1 (Nat.le_refl _) (fun k hk => by cases hk))
  have HO := Lib.hid (show OwnF w1 w.heap.size 31 1 rawCell (.slice (some ⟨w.heap.size, 0, none⟩) 0 L.length) [] from O1)
  clear O1 g1
  go_wp2_with fail
  go_loopw [11, 3] (fun vi vo wr => ∃ i : Nat, vi = .int .i64 i ∧ i ≤ L.length ∧ (∃ (q : Option Addr) (n k : Nat), vo = .slice q n k) ∧ Hid (Own2 wr w.heap.size 31 37 3 valCell vo (L.take i) ∧ Below w.heap.size w wr)) (fun vi _ _ => L.length - (intOf vi).toNat)
  case atStart => exact ⟨0, rfl, Nat.zero_le _, ⟨_, _, _, rfl⟩, Own2.nil _ _ _ _ _ _ _ HO.out, HB.out⟩
  case round =>
    obtain ⟨i, rfl, hi, ⟨q0, n0, k0, rfl⟩, HH⟩ := hrel
    clear HB HO
    obtain ⟨V, hV⟩ : ∃ V, V = wr := ⟨_, rfl⟩
    subst hV
    by_cases hlt : i < L.length
    · obtain ⟨g, off, rfl, hg1, hg2, hcA⟩ := (HR.out.same (Same.of HH.out.2 hh)) i hlt
      obtain ⟨x, hx⟩ : ∃ x, x = L[i] := ⟨_, rfl⟩
      have hxi : L[i]? = some x := by rw [hx]; exact List.getElem?_eq_getElem hlt
      have HXI := Lib.hid hxi
      obtain ⟨pr, cr, a0, a1, a2, hA⟩ := hcA i x hxi
      rw [Nat.mul_one] at a0
      have HA := Lib.hid hA
      have hxl := HX.out x (List.mem_of_getElem? hxi)
      have hsV := HH.out.2.size
      clear hx hxi hcA hA
      go_wp2_with fail
      refine (copiedV_any x pr cr bl bh V hxl HA.out (by omega)).mono ?_
      rintro e w2 ⟨q2, c2, rfl, O2, B2⟩
      obtain ⟨K, hK1, hK2, hK3⟩ := HH.out.1.outer
      have hb : Below V.heap.size V (w2.alloc (.cells #[.slice q2 x.length c2] 31)) := B2.trans (((Below.refl _ _).alloc (Nat.le_refl _) _).mono B2.size)
      have hb2 : Below w2.heap.size w2 (w2.alloc (.cells #[.slice q2 x.length c2] 31)) := (Below.refl _ _).alloc (Nat.le_refl _) _
      have OO := Lib.hid (show OwnF (w2.alloc (.cells #[.slice q2 x.length c2] 31)) w.heap.size 31 1 rawCell (.slice q0 n0 k0) K from hK1.later hb)
      have ON := Lib.hid (show OwnF (w2.alloc (.cells #[.slice q2 x.length c2] 31)) w.heap.size 37 3 valCell (.slice q2 x.length c2) x from (O2.later hb2).base_le hsV)
      have OK := Lib.hid (show ∀ (j : Nat) (r : Raw) (l : List Val), K[j]? = some r → (L.take i)[j]? = some l → r.2.1 = l.length ∧ OwnF (w2.alloc (.cells #[.slice q2 x.length c2] 31)) w.heap.size 37 3 valCell (.slice r.1 r.2.1 r.2.2) l from fun j r l hr hl => ⟨(hK3 j r l hr hl).1, (hK3 j r l hr hl).2.later hb⟩)
      have HKL := Lib.hid hK2
      have hKn : K.length ≤ i := by rw [hK2, List.length_take]; omega
      have HE := Lib.hid (show Below w.heap.size w (w2.alloc (.cells #[.slice q2 x.length c2] 31)) from HH.out.2.trans (hb.mono hsV))
      have hR1 : ArrA 0 (w2.heap.size + 1) (some ⟨w2.heap.size, 0, none⟩) 1 [((q2, x.length, c2) : Raw)] (fun g o r => ∀ (k : Nat) u, (rawCell r)[k]? = some u → (w2.alloc (.cells #[.slice q2 x.length c2] 31)).cell? ⟨g, o + k, none⟩ = some u) := fun j hj => ⟨w2.heap.size, 0, rfl, Nat.zero_le _, by omega, fun n r hr k u hk => by
        have hn : n = 0 := by have := (List.getElem?_eq_some_iff.1 hr).1; simp at this; omega
        have hk0 : k = 0 := by have := (List.getElem?_eq_some_iff.1 hk).1; simp at this; omega
        subst hn hk0
        simp at hr
        subst hr
        simp at hk
        subst hk
        rw [Lib.cell_of_heap (heap_alloc_new w2 _)]
        rfl⟩
      have HR1 := Lib.hid hR1
      clear hR1 hK1 hK2 hK3 hb hb2 O2 B2
      go_wp2_with (at_builtin; refine wp_append_flat rfl _ _ 28 31 rfl Try.underlying28 _ 24 Try.infoRow5 rfl (by omega) rawCell_len rawCell_one w.heap.size _ K rfl OO.out _ _ _ [((q2, x.length, c2) : Raw)] rfl rfl 0 (w2.heap.size + 1) HR1.out ?l1 ?l2 HE.out.size ?_)
      case l1 => unfold maxLen; simp; omega
      case l2 => simp; omega
      intro v3 w3 O3 b3 o3
      obtain ⟨q3, c3, rfl, -⟩ := O3.arr rawCell_len
      have NX := Own2.push (L := L.take i) (l := x) (by decide) OO.out HKL.out OK.out ON.out rfl O3 o3
      have e3 : L.take i ++ [x] = L.take (i + 1) := by rw [List.take_add_one, HXI.out]; rfl
      rw [e3] at NX
      have H3 := Lib.hid (And.intro NX (HE.out.trans b3))
      clear NX e3 O3 b3 o3
      go_wp2
      go_roundw
      case rel => exact ⟨i + 1, by go_num, hlt, ⟨_, _, _, rfl⟩, H3.out⟩
      case measure => simp [intOf] <;> omega
    · have hil : i = L.length := by omega
      have HF := HH.out
      rw [hil, List.take_length] at HF
      obtain ⟨K, hK1, hK2, hK3⟩ := HF.1.outer
      obtain ⟨q3, c3, he, -⟩ := hK1.arr rawCell_len
      rw [hK2] at he
      simp only [Value.slice.injEq] at he
      obtain ⟨rfl, rfl, rfl⟩ := he
      have H3 := Lib.hid HF
      clear HF hK1 hK2 hK3 HH
      go_wp2
      go_ret
      exact ⟨_, _, rfl, H3.out⟩

theorem Try.infoList5 : (Try.prog.info? 50).map (fun i => (i.zero, i.size, i.bytes)) = some (some (.slice none 0 0), 1, 24) := by kernel_rfl
set_option maxHeartbeats 2000000 in
theorem copiedRowsI_any (L : List (List Int)) (p : Option Addr) (c bl bh : Nat) (w : World) (hL : L.length * 24 ≤ 140737488355328) (hc : L.length ≤ c) (hc2 : c ≤ 9223372036854775807) (hx : ∀ r ∈ L, r.length * 8 ≤ 140737488355328) (hR : ListsA w bl bh p L) (hh : bh ≤ w.heap.size) :
    Calls Try.prog 45 #[.slice p L.length c] w fun e w' => ∃ q c', e = .returned (.slice q L.length c') ∧ Own2 w' w.heap.size 50 3 1 intCell (.slice q L.length c') L ∧ Below w.heap.size w w' := by
  obtain ⟨i0, hi0, hz0, hz1, hz2⟩ := info_parts Try.infoList5
  have HR := Lib.hid hR
  have HX := Lib.hid hx
  clear hR hx
  go_enter Try.func45, Try.ntmps45
  go_wp2_with (refine wpList_make_own _ rfl _ _ 49 rfl w.heap.size 50 i0 _ 1 Try.underlying49 hi0 hz0 hz1 .i64 .i64 (L.length : Int) L.length rfl rfl rfl ?k1 ?k2 (Nat.le_refl _) ?_)
  case k1 => rw [hz2]; omega
  case k2 => unfold maxLen; omega
  intro w1 O1 g1
  have HB := Lib.hid (show Below w.heap.size w w1 from (Below.refl _ _).grown g1 (Nat.le_refl _) (fun k hk => by cases hk))
  have HO := Lib.hid (show OwnF w1 w.heap.size 50 1 rawCell (.slice (some ⟨w.heap.size, 0, none⟩) 0 L.length) [] from O1)
  clear O1 g1
  go_wp2_with fail
  go_loopw [11, 3] (fun vi vo wr => ∃ i : Nat, vi = .int .i64 i ∧ i ≤ L.length ∧ (∃ (q : Option Addr) (n k : Nat), vo = .slice q n k) ∧ Hid (Own2 wr w.heap.size 50 3 1 intCell vo (L.take i) ∧ Below w.heap.size w wr)) (fun vi _ _ => L.length - (intOf vi).toNat)
  case atStart => exact ⟨0, rfl, Nat.zero_le _, ⟨_, _, _, rfl⟩, Own2.nil _ _ _ _ _ _ _ HO.out, HB.out⟩
  case round =>
    obtain ⟨i, rfl, hi, ⟨q0, n0, k0, rfl⟩, HH⟩ := hrel
    clear HB HO
    obtain ⟨V, hV⟩ : ∃ V, V = wr := ⟨_, rfl⟩
    subst hV
    by_cases hlt : i < L.length
    · obtain ⟨g, off, rfl, hg1, hg2, hcA⟩ := (HR.out.same (Same.of HH.out.2 hh)) i hlt
      obtain ⟨x, hx⟩ : ∃ x, x = L[i] := ⟨_, rfl⟩
      have hxi : L[i]? = some x := by rw [hx]; exact List.getElem?_eq_getElem hlt
      have HXI := Lib.hid hxi
      obtain ⟨pr, cr, a0, a1, a2, hA⟩ := hcA i x hxi
      rw [Nat.mul_one] at a0
      have HA := Lib.hid hA
      have hxl := HX.out x (List.mem_of_getElem? hxi)
      have hsV := HH.out.2.size
      clear hx hxi hcA hA
      go_wp2_with fail
      refine (copiedI_any x pr cr bl bh V hxl HA.out (by omega)).mono ?_
      rintro e w2 ⟨q2, c2, rfl, O2, B2⟩
      obtain ⟨K, hK1, hK2, hK3⟩ := HH.out.1.outer
      have hb : Below V.heap.size V (w2.alloc (.cells #[.slice q2 x.length c2] 50)) := B2.trans (((Below.refl _ _).alloc (Nat.le_refl _) _).mono B2.size)
      have hb2 : Below w2.heap.size w2 (w2.alloc (.cells #[.slice q2 x.length c2] 50)) := (Below.refl _ _).alloc (Nat.le_refl _) _
      have OO := Lib.hid (show OwnF (w2.alloc (.cells #[.slice q2 x.length c2] 50)) w.heap.size 50 1 rawCell (.slice q0 n0 k0) K from hK1.later hb)
      have ON := Lib.hid (show OwnF (w2.alloc (.cells #[.slice q2 x.length c2] 50)) w.heap.size 3 1 intCell (.slice q2 x.length c2) x from (O2.later hb2).base_le hsV)
      have OK := Lib.hid (show ∀ (j : Nat) (r : Raw) (l : List Int), K[j]? = some r → (L.take i)[j]? = some l → r.2.1 = l.length ∧ OwnF (w2.alloc (.cells #[.slice q2 x.length c2] 50)) w.heap.size 3 1 intCell (.slice r.1 r.2.1 r.2.2) l from fun j r l hr hl => ⟨(hK3 j r l hr hl).1, (hK3 j r l hr hl).2.later hb⟩)
      have HKL := Lib.hid hK2
      have hKn : K.length ≤ i := by rw [hK2, List.length_take]; omega
      have HE := Lib.hid (show Below w.heap.size w (w2.alloc (.cells #[.slice q2 x.length c2] 50)) from HH.out.2.trans (hb.mono hsV))
      have hR1 : ArrA 0 (w2.heap.size + 1) (some ⟨w2.heap.size, 0, none⟩) 1 [((q2, x.length, c2) : Raw)] (fun g o r => ∀ (k : Nat) u, (rawCell r)[k]? = some u → (w2.alloc (.cells #[.slice q2 x.length c2] 50)).cell? ⟨g, o + k, none⟩ = some u) := fun j hj => ⟨w2.heap.size, 0, rfl, Nat.zero_le _, by omega, fun n r hr k u hk => by
        have hn : n = 0 := by have := (List.getElem?_eq_some_iff.1 hr).1; simp at this; omega
        have hk0 : k = 0 := by have := (List.getElem?_eq_some_iff.1 hk).1; simp at this; omega
        subst hn hk0
        simp at hr
        subst hr
        simp at hk
        subst hk
        rw [Lib.cell_of_heap (heap_alloc_new w2 _)]
        rfl⟩
      have HR1 := Lib.hid hR1
      clear hR1 hK1 hK2 hK3 hb hb2 O2 B2
      go_wp2_with (at_builtin; refine wp_append_flat rfl _ _ 49 50 rfl Try.underlying49 _ 24 Try.infoList5 rfl (by omega) rawCell_len rawCell_one w.heap.size _ K rfl OO.out _ _ _ [((q2, x.length, c2) : Raw)] rfl rfl 0 (w2.heap.size + 1) HR1.out ?l1 ?l2 HE.out.size ?_)
      case l1 => unfold maxLen; simp; omega
      case l2 => simp; omega
      intro v3 w3 O3 b3 o3
      obtain ⟨q3, c3, rfl, -⟩ := O3.arr rawCell_len
      have NX := Own2.push (L := L.take i) (l := x) (by decide) OO.out HKL.out OK.out ON.out rfl O3 o3
      have e3 : L.take i ++ [x] = L.take (i + 1) := by rw [List.take_add_one, HXI.out]; rfl
      rw [e3] at NX
      have H3 := Lib.hid (And.intro NX (HE.out.trans b3))
      clear NX e3 O3 b3 o3
      go_wp2
      go_roundw
      case rel => exact ⟨i + 1, by go_num, hlt, ⟨_, _, _, rfl⟩, H3.out⟩
      case measure => simp [intOf] <;> omega
    · have hil : i = L.length := by omega
      have HF := HH.out
      rw [hil, List.take_length] at HF
      obtain ⟨K, hK1, hK2, hK3⟩ := HF.1.outer
      obtain ⟨q3, c3, he, -⟩ := hK1.arr rawCell_len
      rw [hK2] at he
      simp only [Value.slice.injEq] at he
      obtain ⟨rfl, rfl, rfl⟩ := he
      have H3 := Lib.hid HF
      clear HF hK1 hK2 hK3 HH
      go_wp2
      go_ret
      exact ⟨_, _, rfl, H3.out⟩

end Go.Proofs.Ytkeekefekajfnaa
