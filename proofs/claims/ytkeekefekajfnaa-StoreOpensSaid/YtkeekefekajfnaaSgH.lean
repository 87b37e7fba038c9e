/- The store's own Open. -/
import Derived.Test.YtkeekefekajfnaaSgD
import Derived.Test.YtkeekefekajfnaaSgF
import Derived.Deep.AppendLies
namespace Go.Proofs.Ytkeekefekajfnaa
open Go.RowKit Go.Maps
set_option maxRecDepth 100000

/-- A table as it is held. -/
structure RawTab where
  nm : ByteArray
  qc : Option Addr
  nc : Nat
  cc : Nat
  qr : Option Addr
  nr : Nat
  cr : Nat
abbrev tabCell (r : RawTab) : List Value := [.string r.nm, .slice r.qc r.nc r.cc, .slice r.qr r.nr r.cr]
theorem tabCell_len (r : RawTab) : (tabCell r).length = 3 := rfl

theorem OwnF.ty {α : Type} {cells : α → List Value} {sz : Nat} {w : World} {b : Nat} {E : TypeId} {v : Value} {l : List α} (h : OwnF w b E sz cells v l) (k : Nat) (hk : v.ownBlock = some k) : ∃ cur, w.heap[k]? = some (.cells cur E (0, 0)) := by
  obtain ⟨_, h⟩ := h
  rcases h with ⟨rfl, _⟩ | ⟨g, cap, cur, rfl, _, hg, _⟩
  · cases hk
  · have e : g = k := by simpa [Value.ownBlock] using hk
    exact ⟨cur, by rw [← e]; exact hg⟩
theorem OwnF.kept_ty {α : Type} {cells : α → List Value} {sz : Nat} {w w' : World} {b : Nat} {E E' : TypeId} {v : Value} {l : List α} {S : Nat → Prop} (h : OwnF w b E sz cells v l) (o : Out S w w') (hS : ∀ k, S k → ∃ cur, w.heap[k]? = some (.cells cur E' (0, 0))) (hE : E' ≠ E) : OwnF w' b E sz cells v l :=
  h.kept o fun k hk e => by
    obtain ⟨c1, h1⟩ := hS k hk
    obtain ⟨c2, h2⟩ := h.ty k e
    rw [h1] at h2
    injection h2 with h2
    injection h2 with _ h2
    exact hE h2
theorem Own2.kept_ty {α : Type} {w w' : World} {base T E sz : Nat} {E' : TypeId} {cells : α → List Value} {v : Value} {L : List (List α)} {S : Nat → Prop} (h : Own2 w base T E sz cells v L) (o : Out S w w') (hS : ∀ k, S k → ∃ cur, w.heap[k]? = some (.cells cur E' (0, 0))) (h1 : E' ≠ T) (h2 : E' ≠ E) : Own2 w' base T E sz cells v L := by
  obtain ⟨K, k1, k2, k3⟩ := h
  exact ⟨K, k1.kept_ty o hS h1, k2, fun j r l hr hl => ⟨(k3 j r l hr hl).1, (k3 j r l hr hl).2.kept_ty o hS h2⟩⟩
theorem Own2.base_le {α : Type} {w : World} {b b' T E sz : Nat} {cells : α → List Value} {v : Value} {L : List (List α)} (h : Own2 w b T E sz cells v L) (hb : b' ≤ b) : Own2 w b' T E sz cells v L := by
  obtain ⟨K, k1, k2, k3⟩ := h
  exact ⟨K, k1.base_le hb, k2, fun j r l hr hl => ⟨(k3 j r l hr hl).1, (k3 j r l hr hl).2.base_le hb⟩⟩

/-- A table of the call's own. -/
structure TabOwn (w : World) (base : Nat) (r : RawTab) (t : Tab) : Prop where
  nm : r.nm = t.nm
  cols : OwnF w base 39 2 colCell (.slice r.qc r.nc r.cc) t.cols
  rows : Own2 w base 31 37 3 valCell (.slice r.qr r.nr r.cr) t.rows
theorem TabOwn.later {w w' : World} {base : Nat} {r : RawTab} {t : Tab} (h : TabOwn w base r t) (hb : Below w.heap.size w w') : TabOwn w' base r t := ⟨h.nm, h.cols.later hb, h.rows.later hb⟩
theorem TabOwn.kept {w w' : World} {base : Nat} {r : RawTab} {t : Tab} {S : Nat → Prop} (h : TabOwn w base r t) (o : Out S w w') (hS : ∀ k, S k → ∃ cur, w.heap[k]? = some (.cells cur 30 (0, 0))) : TabOwn w' base r t :=
  ⟨h.nm, h.cols.kept_ty o hS (by decide), h.rows.kept_ty o hS (by decide) (by decide)⟩
/-- Tables of the call's own. -/
structure TabsOwn (w : World) (base : Nat) (v : Value) (l : List Tab) : Prop where
  outer : ∃ K : List RawTab, OwnF w base 30 3 tabCell v K ∧ K.length = l.length ∧ ∀ (j : Nat) (r : RawTab) (t : Tab), K[j]? = some r → l[j]? = some t → TabOwn w base r t
theorem TabsOwn.push {w w' : World} {base : Nat} {v v' : Value} {l : List Tab} {K : List RawTab} {r : RawTab} {t : Tab} (h1 : OwnF w base 30 3 tabCell v K) (h2 : K.length = l.length)
    (h3 : ∀ (j : Nat) (r : RawTab) (t : Tab), K[j]? = some r → l[j]? = some t → TabOwn w base r t) (hn : TabOwn w base r t) (h' : OwnF w' base 30 3 tabCell v' (K ++ [r])) (o : Out (fun k => v.ownBlock = some k) w w') : TabsOwn w' base v' (l ++ [t]) := by
  refine ⟨_, h', by simp [h2], fun j r x hr hx => ?_⟩
  by_cases hj : j < K.length
  · rw [List.getElem?_append_left hj] at hr
    rw [List.getElem?_append_left (by omega)] at hx
    exact (h3 j r x hr hx).kept o h1.ty
  · have hjk : j = K.length := by
      have := (List.getElem?_eq_some_iff.1 hr).1
      simp at this
      omega
    rw [hjk, List.getElem?_append_right (Nat.le_refl _), Nat.sub_self] at hr
    rw [hjk, h2, List.getElem?_append_right (Nat.le_refl _), Nat.sub_self] at hx
    simp at hr hx
    subst hr hx
    exact hn.kept o h1.ty
theorem TabsOwn.tabs {w : World} {base : Nat} {q : Option Addr} {n c : Nat} {l : List Tab} (hn : ∀ t ∈ l, t.nm.size ≤ 9223372036854775807 ∧ ∀ x ∈ t.cols, x.nm.size ≤ 9223372036854775807) (h : TabsOwn w base (.slice q n c) l) : n = l.length ∧ l.length ≤ c ∧ c ≤ 9223372036854775807 ∧ TabsA w base w.heap.size q l := by
  obtain ⟨K, hK, hl, hin⟩ := h.outer
  obtain ⟨q', c', e, h1, h2, _, h4⟩ := hK.arr tabCell_len
  simp only [Value.slice.injEq] at e
  obtain ⟨rfl, rfl, rfl⟩ := e
  rw [hl] at h1 ⊢
  refine ⟨rfl, h1, h2, fun i hi => ?_⟩
  obtain ⟨g, off, hq, g1, g2, hc⟩ := h4 i (by omega)
  refine ⟨g, off, hq, g1, g2, fun j x hx => ?_⟩
  obtain ⟨r, hr⟩ : ∃ r, K[j]? = some r := ⟨_, List.getElem?_eq_getElem (by have := (List.getElem?_eq_some_iff.1 hx).1; omega)⟩
  obtain ⟨e1, ho, hr2⟩ := hin j r x hr hx
  obtain ⟨n1, n2⟩ := hn x (List.mem_of_getElem? hx)
  obtain ⟨e2, hoc⟩ := ho.cols n2
  obtain ⟨e3, k1, k2, k3⟩ := hr2.rows
  refine ⟨⟨?_, n1⟩, ⟨r.qc, r.cc, ?_, hoc.le, hoc.le2, hoc.arr⟩, r.qr, r.cr, ?_, k1, k2, k3⟩
  · rw [← e1]; exact hc j r hr 0 _ rfl
  · rw [← e2]; exact hc j r hr 1 _ rfl
  · rw [← e3]; exact hc j r hr 2 _ rfl
theorem TabsA.names {w : World} {lo hi : Nat} {q : Option Addr} {l : List Tab} (h : TabsA w lo hi q l) : ∀ t ∈ l, t.nm.size ≤ 9223372036854775807 ∧ ∀ x ∈ t.cols, x.nm.size ≤ 9223372036854775807 := fun t ht => by
  obtain ⟨i, hi⟩ := List.getElem?_of_mem ht
  obtain ⟨g, off, _, _, _, h4⟩ := h i (List.getElem?_eq_some_iff.1 hi).1
  obtain ⟨⟨_, a⟩, ⟨p, c, _, _, _, b⟩, _⟩ := h4 i t hi
  exact ⟨a, b.names⟩

/-- What a new store is. -/
theorem StP.made {w wE : World} {l : List Tab} {q : Option Addr} {c : Nat} (hP : TabsP l) (hE : Below w.heap.size w wE) (h1 : l.length ≤ c) (h2 : c ≤ 9223372036854775807) (hT : TabsA wE w.heap.size wE.heap.size q l) :
    StP ((wE.alloc (.map #[] 0)).alloc (.cells #[.slice q l.length c, .map (some wE.heap.size)] 66)) (fun k => w.heap.size ≤ k ∧ k < wE.heap.size + 2) (wE.heap.size + 1) l (fun _ => none) 0 := by
  have hs := hE.size
  have b1 : Below wE.heap.size wE (wE.alloc (.map #[] 0)) := (Below.refl _ _).alloc (Nat.le_refl _) _
  have b2 : Below wE.heap.size wE ((wE.alloc (.map #[] 0)).alloc (.cells #[.slice q l.length c, .map (some wE.heap.size)] 66)) := b1.alloc (by simp) _
  have hcell : ((wE.alloc (.map #[] 0)).alloc (.cells #[.slice q l.length c, .map (some wE.heap.size)] 66)).heap[wE.heap.size + 1]? = some (.cells #[.slice q l.length c, .map (some wE.heap.size)] 66 (0, 0)) := by
    have h := heap_alloc_new (wE.alloc (.map #[] 0)) (.cells #[.slice q l.length c, .map (some wE.heap.size)] 66)
    rwa [World.size_alloc] at h
  refine ⟨hP, fun k hk => by simp; omega, by omega, q, c, wE.heap.size, w.heap.size, wE.heap.size, ⟨by rw [Lib.cell_of_heap hcell]; rfl, by rw [Lib.cell_of_heap hcell]; rfl⟩, h1, h2, hT.same (Same.of b2 (Nat.le_refl _)), by simp; omega, fun k k1 k2 => ⟨k1, by omega⟩, ⟨⟨by omega, by omega⟩, ⟨hs, by omega⟩, by omega, by omega⟩, ?_⟩
  exact ⟨.map [], (World.ownsMap_made wE Try.prog 9 rawElem).alloc _, fun s => rfl, fun s L h => by cases h⟩

theorem Try.infoTab5 : (Try.prog.info? 30).map (fun i => (i.zero, i.size, i.bytes)) = some (some (.agg #[.string ⟨#[]⟩, .slice none 0 0, .slice none 0 0]), 3, 64) := by kernel_rfl

set_option maxHeartbeats 4000000 in
theorem open5_any (l : List Tab) (q : Option Addr) (c bl bh : Nat) (w : World) (hc : l.length ≤ c) (hc2 : c ≤ 9223372036854775807) (hT : TabsA w bl bh q l) (hh : bh ≤ w.heap.size) :
    Calls Try.prog 13 #[.slice q l.length c] w fun e w' => Below w.heap.size w w' ∧
      ((TabsP l ∧ ∃ p S, e = .returned (.tuple #[.pointer (some ⟨p, 0, none⟩), .int .i64 0]) ∧ StP w' S p l (fun _ => none) 0 ∧ ∀ k, S k → w.heap.size ≤ k) ∨ (¬ TabsP l ∧ e = .returned (.tuple #[.pointer none, .int .i64 1]))) := by
  have RR := Lib.hid (sright_any l q c bl bh w hc hc2 hT hh)
  have HT := Lib.hid hT
  clear hT
  by_cases hP : TabsP l
  · have HP := Lib.hid hP
    have hmm := @run_makeMap Try.prog
    obtain ⟨i0, hi0, hz0, hz1, hz2⟩ := info_parts Try.infoTab5
    have h8 := hP.1
    clear hP
    go_enter Try.func13, Try.ntmps13
    go_wp2_with fail
    refine (RR.out).mono ?_
    rintro e w1 ⟨ht, hB1⟩
    obtain rfl := ht.yes_of HP.out
    clear ht
    have HB1 := Lib.hid hB1
    have hs1 := hB1.size
    clear hB1
    go_wp2_with (refine wpList_make_own _ rfl _ _ 22 rfl w.heap.size 30 i0 _ 3 Try.underlying22 hi0 hz0 hz1 .i64 .i64 (l.length : Int) l.length rfl rfl rfl ?k1 ?k2 hs1 ?_)
    case k1 => rw [hz2]; omega
    case k2 => unfold maxLen; omega
    intro w2 O1 g1
    have HB := Lib.hid (show Below w.heap.size w w2 from HB1.out.trans ((Below.refl _ _).grown g1 hs1 (fun k hk => by cases hk)))
    have HO := Lib.hid (show TabsOwn w2 w.heap.size (.slice (some ⟨w1.heap.size, 0, none⟩) 0 l.length) [] from ⟨[], O1, rfl, fun j r t h => by simp at h⟩)
    clear O1 g1
    go_wp2_with fail
    go_loopw [15, 4] (fun vi vo wr => ∃ i : Nat, vi = .int .i64 i ∧ i ≤ l.length ∧ (∃ (q : Option Addr) (n k : Nat), vo = .slice q n k) ∧ Hid (TabsOwn wr w.heap.size vo (l.take i) ∧ Below w.heap.size w wr)) (fun vi _ _ => l.length - (intOf vi).toNat)
    case atStart => exact ⟨0, rfl, Nat.zero_le _, ⟨_, _, _, rfl⟩, HO.out, HB.out⟩
    case round =>
      obtain ⟨i, rfl, hi, ⟨q0, n0, k0, rfl⟩, HH⟩ := hrel
      clear HB HO RR
      obtain ⟨V, hV⟩ : ∃ V, V = wr := ⟨_, rfl⟩
      subst hV
      have hsV := HH.out.2.size
      by_cases hlt : i < l.length
      · obtain ⟨g, off, rfl, hg1, hg2, hcA⟩ := (HT.out.same (Same.of HH.out.2 hh)) i hlt
        obtain ⟨t, ht⟩ : ∃ t, t = l[i] := ⟨_, rfl⟩
        have hti : l[i]? = some t := by rw [ht]; exact List.getElem?_eq_getElem hlt
        have HTI := Lib.hid hti
        obtain ⟨⟨a0, a3⟩, ⟨p1, c1, a1, a4, a5, hC⟩, p2, c2, a2, a6, a7, hR⟩ := hcA i t hti
        have hTP := (HP.out.2 i t hti).1
        obtain ⟨G, hG⟩ : ∃ G, G = V.alloc (.cells #[.string t.nm, .slice p1 t.cols.length c1, .slice p2 t.rows.length c2] 30) := ⟨_, rfl⟩
        have k0' : G.cell? ⟨V.heap.size, 0, none⟩ = some (.string t.nm) := by rw [hG, Lib.cell_of_heap (heap_alloc_new V _)]; rfl
        have k1' : G.cell? ⟨V.heap.size, 1, none⟩ = some (.slice p1 t.cols.length c1) := by rw [hG, Lib.cell_of_heap (heap_alloc_new V _)]; rfl
        have k2' : G.cell? ⟨V.heap.size, 2, none⟩ = some (.slice p2 t.rows.length c2) := by rw [hG, Lib.cell_of_heap (heap_alloc_new V _)]; rfl
        have hVG : Below V.heap.size V G := by rw [hG]; exact ext_alloc (ext_refl V) _
        have hsG : V.heap.size < G.heap.size := by rw [hG]; simp
        have hGd : Below V.heap.size V G.drew := hVG.drew
        have KC := Lib.hid (show ∀ W, Below G.drew.heap.size G.drew W → W.cell? ⟨V.heap.size, 0, none⟩ = some (.string t.nm) ∧ W.cell? ⟨V.heap.size, 1, none⟩ = some (.slice p1 t.cols.length c1) ∧ W.cell? ⟨V.heap.size, 2, none⟩ = some (.slice p2 t.rows.length c2) from fun W hb =>
          ⟨(hb.cell (p := ⟨V.heap.size, 0, none⟩) hsG).trans k0', (hb.cell (p := ⟨V.heap.size, 1, none⟩) hsG).trans k1', (hb.cell (p := ⟨V.heap.size, 2, none⟩) hsG).trans k2'⟩)
        have hcd := KC.out G.drew (Below.refl _ _)
        have CC := Lib.hid (copiedC_any t.cols p1 c1 bl bh G.drew (by have := hTP.2.1.2; omega) (hC.same (Same.of hGd (by omega))) (by have := hGd.size; omega))
        have CR := Lib.hid (show ∀ W, Below G.drew.heap.size G.drew W → _ from fun W hb => copiedRowsV_any t.rows p2 c2 bl bh W (by have := hTP.2.2.1; omega) a6 a7 (fun r hr => by
          obtain ⟨j, hj⟩ := List.getElem?_of_mem hr
          have h1 := (hTP.2.2.2.2 j r hj).1
          have h2 := hTP.2.1.2
          omega) (hR.same (Same.of (hGd.trans (hb.mono hGd.size)) (by omega))) (by have := (hGd.trans (hb.mono hGd.size)).size; omega))
        obtain ⟨K, hK1, hK2, hK3⟩ := HH.out.1.outer
        have HK := Lib.hid (And.intro hK1 (And.intro hK2 hK3))
        have hKn : K.length ≤ 8 := by rw [hK2, List.length_take]; omega
        have HGD := Lib.hid hGd
        have hqb : ∀ k, (Value.slice q0 n0 k0).ownBlock = some k → k < V.heap.size := fun k hk => (hK1.lt k hk).2
        have hQB := Lib.hid hqb
        clear ht hti hcA a3 hC hR k0' k1' k2' hVG hGd hTP hK1 hK2 hK3 hqb
        go_wp2_with fail
        rw [← hG]
        clear hG
        go_region_held3 (fun W => W.cell? ⟨V.heap.size, 0, none⟩ = some (.string t.nm) ∧ W.cell? ⟨V.heap.size, 1, none⟩ = some (.slice p1 t.cols.length c1) ∧ W.cell? ⟨V.heap.size, 2, none⟩ = some (.slice p2 t.rows.length c2))
          (first | exact hcd | exact hc5 | exact hc6 | exact hc7 | exact hc8) (first
            | (go_at_call 30; go_must (refine (CC.out).mono ?_; rintro e W5 ⟨q5, c5, rfl, O5, B5⟩; have hc5 := KC.out W5 B5; have H5 := Lib.hid (And.intro O5 B5); clear O5 B5))
            | (go_at_call 31; go_must (refine (CR.out W5 H5.out.2).mono ?_; rintro e W6 ⟨q6, c6, rfl, O6, B6⟩; have hc6 := KC.out W6 (H5.out.2.trans (B6.mono H5.out.2.size)); have hc7 := KC.out (W6.alloc (.cells #[.string t.nm, .slice q5 t.cols.length c5, .slice q6 t.rows.length c6] 30)) ((H5.out.2.trans (B6.mono H5.out.2.size)).trans ((ext_alloc (ext_refl W6) _).mono (Nat.le_trans H5.out.2.size B6.size))); have H6 := Lib.hid (And.intro O6 B6); have OO := Lib.hid (show OwnF (W6.alloc (.cells #[.string t.nm, .slice q5 t.cols.length c5, .slice q6 t.rows.length c6] 30)) w.heap.size 30 3 tabCell (.slice q0 n0 k0) K from HK.out.1.later (((HGD.out.trans (H5.out.2.mono HGD.out.size)).trans (B6.mono (Nat.le_trans HGD.out.size H5.out.2.size))).trans ((ext_alloc (ext_refl W6) _).mono (Nat.le_trans HGD.out.size (Nat.le_trans H5.out.2.size B6.size))))); have hs6 : V.heap.size ≤ W6.heap.size := Nat.le_trans HGD.out.size (Nat.le_trans H5.out.2.size B6.size); clear O6 B6))
            | (refine step_append_lies _ rfl _ _ 22 rfl w.heap.size 30 i0 _ 3 64 Try.underlying22 hi0 hz0 hz1 hz2 rfl (by omega) (.slice q0 n0 k0) _ _ rfl OO.out ⟨W6.heap.size, 0, none⟩ 1 1 [.string t.nm, .slice q5 t.cols.length c5, .slice q6 t.rows.length c6] rfl rfl (World.news_of_block (heap_alloc_new W6 _)) (fun u hu => by simp at hu; rcases hu with rfl | rfl | rfl <;> rfl) (by omega) (by unfold maxLen; omega) (by omega) (by simp; omega) _ rfl ?_; intro g9 c9 w9 hown9 hgrow9 hat9 hlt9; have hc8 : w9.cell? ⟨V.heap.size, 0, none⟩ = some (.string t.nm) ∧ w9.cell? ⟨V.heap.size, 1, none⟩ = some (.slice p1 t.cols.length c1) ∧ w9.cell? ⟨V.heap.size, 2, none⟩ = some (.slice p2 t.rows.length c2) := ⟨(hgrow9.cell_far _ (by simp; omega) (fun e => Nat.lt_irrefl _ (hQB.out _ e.symm))).trans hc7.1, (hgrow9.cell_far _ (by simp; omega) (fun e => Nat.lt_irrefl _ (hQB.out _ e.symm))).trans hc7.2.1, (hgrow9.cell_far _ (by simp; omega) (fun e => Nat.lt_irrefl _ (hQB.out _ e.symm))).trans hc7.2.2⟩; have H9 := Lib.hid (And.intro hown9 (And.intro hgrow9 (And.intro hat9 hlt9))); clear hown9 hgrow9 hat9 hlt9))
        have bw5 : Below W5.heap.size W5 (W6.alloc (.cells #[.string t.nm, .slice q5 t.cols.length c5, .slice q6 t.rows.length c6] 30)) := H6.out.2.trans ((ext_alloc (ext_refl W6) _).mono H6.out.2.size)
        have bw6 : Below W6.heap.size W6 (W6.alloc (.cells #[.string t.nm, .slice q5 t.cols.length c5, .slice q6 t.rows.length c6] 30)) := ext_alloc (ext_refl W6) _
        have bwV : Below V.heap.size V (W6.alloc (.cells #[.string t.nm, .slice q5 t.cols.length c5, .slice q6 t.rows.length c6] 30)) := (HGD.out.trans (H5.out.2.mono HGD.out.size)).trans (bw5.mono (Nat.le_trans HGD.out.size H5.out.2.size))
        have hO9 : OwnF w9 w.heap.size 30 3 tabCell (.slice (some ⟨g9, 0, none⟩) (K.length + 1) c9) (K ++ [⟨t.nm, q5, t.cols.length, c5, q6, t.rows.length, c6⟩]) := by
          unfold OwnF
          rw [List.length_append, List.flatMap_append]
          exact H9.out.1
        have hsG : w.heap.size ≤ G.drew.heap.size := Nat.le_trans hsV HGD.out.size
        have NX := TabsOwn.push (l := l.take i) (t := t) OO.out HK.out.2.1 (fun j r t hr ht => (HK.out.2.2 j r t hr ht).later bwV) ⟨rfl, (H5.out.1.later bw5).base_le hsG, (H6.out.1.later bw6).base_le (Nat.le_trans hsG H5.out.2.size)⟩ hO9 (Out.grown H9.out.2.1 (fun k hk => hk))
        have e3 : l.take i ++ [t] = l.take (i + 1) := by rw [List.take_add_one, HTI.out]; rfl
        rw [e3] at NX
        have b9 : Below w.heap.size w w9 := (HH.out.2.trans (bwV.mono hsV)).grown H9.out.2.1 (by simp; omega) (fun k hk => (OO.out.lt k hk).1)
        have H3 := Lib.hid (And.intro NX b9)
        clear NX e3 b9 hO9 bw5 bw6 bwV hcd hc5 hc6 hc7 hc8
        go_wp2
        go_roundw
        case rel => exact ⟨i + 1, by go_num, hlt, ⟨_, _, _, rfl⟩, H3.out⟩
        case measure => simp [intOf] <;> omega
      · have hil : i = l.length := by omega
        have HF := HH.out
        rw [hil, List.take_length] at HF
        obtain ⟨e1, e2, e3, e4⟩ := HF.1.tabs HT.out.names
        subst e1
        have H3 := Lib.hid (StP.made HP.out HF.2 e2 e3 e4)
        have hbE := HF.2
        clear HF e4 HH
        go_wp2
        refine bodyPost_ret (v := .tuple #[.pointer (some ⟨V.heap.size + 1, 0, none⟩), .int .i64 0]) (by simp [results, Try.results13, go_sem]) rfl ⟨?_, .inl ⟨HP.out, _, _, rfl, H3.out, fun k hk => hk.1⟩⟩
        exact (hbE.alloc hbE.size _).alloc (by have := hbE.size; simp; omega) _
  · have HP := Lib.hid hP
    clear hP
    go_enter Try.func13, Try.ntmps13
    go_wp2_with fail
    refine (RR.out).mono ?_
    rintro e w1 ⟨ht, hB1⟩
    obtain rfl := ht.no_of HP.out
    clear ht
    go_wp2
    refine bodyPost_ret (v := .tuple #[.pointer none, .int .i64 1]) (by simp [results, Try.results13, go_sem]) rfl ⟨hB1, .inr ⟨HP.out, rfl⟩⟩

end Go.Proofs.Ytkeekefekajfnaa
