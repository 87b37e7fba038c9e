/- Two lists of selects put together are the query of both. -/
import Derived.Test.YtgmmbfcjjgehoaaGreatDoorPbE
import Derived.Deep.Slices
namespace Go.Proofs.YtgmmbfcjjgehoaaGreatDoor
open Go.RowKit Go.Deep
set_option maxRecDepth 100000

/-- Selects as raw cells. -/
theorem sels_raw {w : World} {P : Nat → Prop} {q : Option Addr} {l : List Sel} (h : LsM elS w P q l) : ∃ K : List RawS, K.length = l.length ∧ ArrA 0 w.heap.size q 5 K (fun g o r => ∀ (k : Nat) u, r.cells[k]? = some u → w.cell? ⟨g, o + k, none⟩ = some u) ∧ ∀ (j : Nat) (r : RawS) (x : Sel), K[j]? = some r → l[j]? = some x → elS.rel w P x r := by
  have : Inhabited RawS := ⟨⟨false, ⟨none, 0, 0⟩, ⟨none, 0, 0⟩, ⟨none, 0, 0⟩, ⟨none, 0, 0⟩⟩⟩
  have each : ∀ i, i < l.length → ∃ r : RawS, ∀ x, l[i]? = some x → elS.rel w P x r ∧ ∃ g off, q = some ⟨g, off, none⟩ ∧ g < w.heap.size ∧ ∀ (k : Nat) u, r.cells[k]? = some u → w.cell? ⟨g, off + i * 5 + k, none⟩ = some u := by
    intro i hi
    obtain ⟨g, off, r, hq, hg, -, hx, hc⟩ := h i _ (List.getElem?_eq_getElem hi)
    refine ⟨r, fun x hx' => ?_⟩
    rw [List.getElem?_eq_getElem hi] at hx'
    cases hx'
    exact ⟨hx, g, off, hq, hg, hc⟩
  obtain ⟨f, hf⟩ := choose_lt each
  refine ⟨(List.range l.length).map f, by simp, fun i hi => ?_, fun i r x hr hx => ?_⟩
  · have hi' : i < l.length := by simpa using hi
    obtain ⟨_, g, off, hq, hg, _⟩ := hf i hi' _ (List.getElem?_eq_getElem hi')
    refine ⟨g, off, hq, Nat.zero_le _, hg, fun j r hr k u hu => ?_⟩
    have hj : j < l.length := by have := (List.getElem?_eq_some_iff.1 hr).1; simpa using this
    have hr' : f j = r := by simpa [hj] using hr
    obtain ⟨_, g', off', hq', _, h5⟩ := hf j hj _ (List.getElem?_eq_getElem hj)
    rw [hq] at hq'
    cases hq'
    rw [hr'] at h5
    exact h5 k u hu
  · have hi := (List.getElem?_eq_some_iff.1 hx).1
    have hr' : f i = r := by simpa [hi] using hr
    rw [← hr']
    exact (hf i hi x hx).1
theorem RawS.cells_len9 (r : RawS) : r.cells.length = 5 := rfl
/-- Raw cells that lie somewhere, as selects. -/
theorem sels_of {w : World} {base : Nat} {q : Option Addr} {n c : Nat} {K : List RawS} {L : List Sel} (h : OwnF w base 38 5 RawS.cells (.slice q n c) K) (hl : K.length = L.length) (hr : ∀ (j : Nat) (r : RawS) (x : Sel), K[j]? = some r → L[j]? = some x → elS.rel w (fun _ => True) x r) : n = L.length ∧ n ≤ c ∧ LsM elS w (fun _ => True) q L := by
  obtain ⟨q', c', e, h1, h2, _, h4⟩ := h.arr RawS.cells_len9
  simp only [Value.slice.injEq] at e
  obtain ⟨rfl, rfl, rfl⟩ := e
  refine ⟨hl, h1, fun j x hx => ?_⟩
  have hj : j < K.length := by rw [hl]; exact (List.getElem?_eq_some_iff.1 hx).1
  obtain ⟨g, off, hq, _, hg, hc⟩ := h4 j hj
  exact ⟨g, off, K[j], hq, hg, trivial, hr j _ x (List.getElem?_eq_getElem hj) hx, hc j _ (List.getElem?_eq_getElem hj)⟩
theorem both_qm {A X : World} (bX : Below A.heap.size A X) {base : Nat} {q : Option Addr} {n c : Nat} {KA KB : List RawS} {a b : Qu} (own : OwnF X base 38 5 RawS.cells (.slice q n c) ([] ++ KA ++ KB)) (ha1 : KA.length = a.sels.length) (ha3 : ∀ (j : Nat) (r : RawS) (x : Sel), KA[j]? = some r → a.sels[j]? = some x → elS.rel A (fun _ => True) x r)
    (hb1 : KB.length = b.sels.length) (hb3 : ∀ (j : Nat) (r : RawS) (x : Sel), KB[j]? = some r → b.sels[j]? = some x → elS.rel A (fun _ => True) x r) {q2 : Option Addr} {n2 c2 : Nat} {o2 : Option Addr} {m2 d2 : Nat} (hm : QuM A b q2 n2 c2 o2 m2 d2) : QuM X ⟨a.sels ++ b.sels, b.order⟩ q n c o2 m2 d2 := by
  have on : ∀ (x : Sel) (r : RawS), elS.rel A (fun _ => True) x r → elS.rel X (fun _ => True) x r := fun x r h => elS_ok.on bX.size (fun g _ hl => bX.block g hl) (fun _ _ _ => trivial) x r h
  refine ⟨sels_of own (by simp [ha1, hb1]) fun j r x hr hx => ?_, (hm.on bX).o⟩
  rw [List.nil_append] at hr
  by_cases hj : j < KA.length
  · rw [List.getElem?_append_left hj] at hr
    have hx : (a.sels ++ b.sels)[j]? = some x := hx
    rw [List.getElem?_append_left (by omega)] at hx
    exact on _ _ (ha3 j r x hr hx)
  · rw [List.getElem?_append_right (by omega)] at hr
    have hx : (a.sels ++ b.sels)[j]? = some x := hx
    rw [List.getElem?_append_right (by omega), ← ha1] at hx
    exact on _ _ (hb3 _ r x hr hx)

/-- The query of both, in its box: its selects in a slice of the call's own, its order as it lay. -/
structure BothR (A X : World) (g : Nat) (qb : Option Addr) (n cb : Nat) (o2 : Option Addr) (m2 d2 : Nat) (K : List RawS) : Prop where
  bel : Below A.heap.size A X
  lt : g < X.heap.size
  c0 : X.cell? ⟨g, 0, none⟩ = some (.slice qb n cb)
  c1 : X.cell? ⟨g, 1, none⟩ = some (.slice o2 m2 d2)
  own : ∃ base, OwnF X base 38 5 RawS.cells (.slice qb n cb) K
theorem both_last {A wB : World} {n n' : Nat} (hn : n = n') (hb : Below A.heap.size A.drew wB) {base cb m2 d2 : Nat} {qb o2 : Option Addr} {K : List RawS} (own : OwnF wB base 38 5 RawS.cells (.slice qb n' cb) K) (T : TypeId) :
    BothR A (wB.alloc (.cells #[.slice qb n cb, .slice o2 m2 d2] T)) wB.heap.size qb n cb o2 m2 d2 K := by
  subst hn
  have h1 : Below A.heap.size A wB := Below.trans (Below.drew (Below.refl A.heap.size A)) hb
  have N := BkA.new wB [.slice qb n cb, .slice o2 m2 d2] T
  exact ⟨h1.trans ((ext_alloc (ext_refl wB) _).mono h1.size), N.lt, N.c 0 _ rfl, N.c 1 _ rfl, base, own.later (ext_alloc (ext_refl wB) _)⟩
theorem both_set {A wB : World} {n n' : Nat} (hn : n = n') (hb : Below A.heap.size A wB) {base g cb m2 d2 : Nat} (hg : A.heap.size ≤ g) {qb o2 : Option Addr} {K : List RawS} (own : OwnF wB base 38 5 RawS.cells (.slice qb n' cb) K) (NB : BkA wB g [.slice none 0 0, .slice none 0 0]) (ne : ∀ k, (Value.slice qb n' cb).ownBlock = some k → k ≠ g) :
    BothR A ((wB.setCell ⟨g, 0, none⟩ (.slice qb n cb)).setCell ⟨g, 1, none⟩ (.slice o2 m2 d2)) g qb n cb o2 m2 d2 K := by
  subst hn
  have o : Out (fun k => k = g) wB ((wB.setCell ⟨g, 0, none⟩ (.slice qb n cb)).setCell ⟨g, 1, none⟩ (.slice o2 m2 d2)) := (Out.set (S := fun k => k = g) ⟨g, 0, none⟩ _ rfl).trans (Out.set (S := fun k => k = g) ⟨g, 1, none⟩ _ rfl)
  have e1 : (wB.setCell ⟨g, 0, none⟩ (.slice qb n cb)).cell? ⟨g, 1, none⟩ = some (.slice none 0 0) := (World.cell?_setCell_other _ _ _ _ (by intro h; cases h)).trans (NB.c 1 _ rfl)
  refine ⟨(hb.setCell hg _).setCell hg _, Nat.lt_of_lt_of_le NB.lt o.size, ?_, World.cell?_setCell_same _ _ _ e1, base, own.kept o fun k hk e => ne k e hk⟩
  exact (World.cell?_setCell_other _ _ _ _ (by intro h; cases h)).trans (World.cell?_setCell_same _ _ _ (NB.c 0 _ rfl))

/-- What stands behind the selects' block stays: the box is another one. -/
theorem both_kept {wB X : World} {base B : Nat} {v : Value} {K : List RawS} (own : OwnF wB base 38 5 RawS.cells v K) (o : Out (fun k => k = B) wB X) (hB : v.ownBlock ≠ some B) : OwnF X base 38 5 RawS.cells v K := own.kept o (fun k hk e => hB (by rw [← hk]; exact e))

end Go.Proofs.YtgmmbfcjjgehoaaGreatDoor
