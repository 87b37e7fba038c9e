/- What is held of a store; Find, Many, Cols, Row. -/
import Derived.Test.YtkeekefekajfnaaSgB
import Derived.Test.YtkeekefekajfnaaSgE
import Derived.Test.YtkeekefekajfnaaBgW
namespace Go.Proofs.Ytkeekefekajfnaa
open Go.RowKit Go.Maps
open Go.Proofs (encStr)
set_option maxRecDepth 100000

theorem OwnF.free {α : Type} {cells : α → List Value} {sz : Nat} {w : World} {base : Nat} {E : TypeId} {q : Option Addr} {n c : Nat} {l : List α} (hcl : ∀ x, (cells x).length = sz) (h : OwnF w base E sz cells (.slice q n c) l) (m : Nat) : FreeQ w q m := by
  obtain ⟨q', c', e, _, _, hf, _⟩ := h.arr hcl
  simp only [Value.slice.injEq] at e
  obtain ⟨rfl, -, -⟩ := e
  exact fun _ g off e o => (hf g off e).2.2.2 o
theorem OwnF.vals {w : World} {base : Nat} {q : Option Addr} {n c : Nat} {l : List Val} (h : OwnF w base 37 3 valCell (.slice q n c) l) : n = l.length ∧ OwnVals w base q c l := by
  have hf := h.free valCell_len l.length
  obtain ⟨q', c', e, h1, h2, _, h4⟩ := h.arr valCell_len
  simp only [Value.slice.injEq] at e
  obtain ⟨rfl, rfl, rfl⟩ := e
  exact ⟨rfl, h1, h2, flat_valsA h4, hf⟩
theorem OwnF.cols {w : World} {base : Nat} {q : Option Addr} {n c : Nat} {l : List Col} (hn : ∀ x ∈ l, x.nm.size ≤ 9223372036854775807) (h : OwnF w base 39 2 colCell (.slice q n c) l) : n = l.length ∧ OwnCols w base q c l := by
  have hf := h.free colCell_len l.length
  obtain ⟨q', c', e, h1, h2, _, h4⟩ := h.arr colCell_len
  simp only [Value.slice.injEq] at e
  obtain ⟨rfl, rfl, rfl⟩ := e
  exact ⟨rfl, h1, h2, flat_colsA hn h4, hf⟩
theorem Own2.rows {w : World} {base : Nat} {q : Option Addr} {n c : Nat} {L : List (List Val)} (h : Own2 w base 31 37 3 valCell (.slice q n c) L) : n = L.length ∧ L.length ≤ c ∧ c ≤ 9223372036854775807 ∧ RowsA w base w.heap.size q L := by
  obtain ⟨K, hK, hl, hin⟩ := h.outer
  obtain ⟨q', c', e, h1, h2, _, h4⟩ := hK.arr rawCell_len
  simp only [Value.slice.injEq] at e
  obtain ⟨rfl, rfl, rfl⟩ := e
  rw [hl] at h1 ⊢
  refine ⟨rfl, h1, h2, fun i hi => ?_⟩
  obtain ⟨g, off, hq, g1, g2, hc⟩ := h4 i (by omega)
  refine ⟨g, off, hq, g1, g2, fun j x hx => ?_⟩
  obtain ⟨r, hr⟩ : ∃ r, K[j]? = some r := ⟨_, List.getElem?_eq_getElem (by have := (List.getElem?_eq_some_iff.1 hx).1; omega)⟩
  obtain ⟨e1, ho⟩ := hin j r x hr hx
  have hcell := hc j r hr 0 _ rfl
  obtain ⟨_, hv⟩ := ho.vals
  exact ⟨r.1, r.2.2, by rw [← e1]; exact hcell, hv.le, hv.le2, hv.arr⟩
theorem Own2.lists {w : World} {base : Nat} {q : Option Addr} {n c : Nat} {L : Lists} (h : Own2 w base 50 3 1 intCell (.slice q n c) L) : n = L.length ∧ OwnLists w base q c L := by
  obtain ⟨K, hK, hl, hin⟩ := h.outer
  obtain ⟨q', c', e, h1, h2, _, h4⟩ := hK.arr rawCell_len
  simp only [Value.slice.injEq] at e
  obtain ⟨rfl, rfl, rfl⟩ := e
  rw [hl] at h1 ⊢
  have hcell : ∀ g off, q = some ⟨g, off, none⟩ → ∀ (j : Nat) (r : Raw), K[j]? = some r → w.cell? ⟨g, off + j, none⟩ = some (.slice r.1 r.2.1 r.2.2) := fun g off hq j r hr => by
    obtain ⟨g', off', hq', _, _, hc⟩ := h4 j (List.getElem?_eq_some_iff.1 hr).1
    rw [hq] at hq'
    obtain ⟨rfl, rfl⟩ : g = g' ∧ off = off' := by simpa using hq'
    have := hc j r hr 0 _ rfl
    rwa [Nat.mul_one, Nat.add_zero] at this
  refine ⟨rfl, h1, h2, fun i hi => ?_, fun g off hq j l hx p n k hp => ?_⟩
  · obtain ⟨g, off, hq, g1, g2, hc⟩ := h4 i (by omega)
    refine ⟨g, off, hq, g1, g2, fun j x hx => ?_⟩
    obtain ⟨r, hr⟩ : ∃ r, K[j]? = some r := ⟨_, List.getElem?_eq_getElem (by have := (List.getElem?_eq_some_iff.1 hx).1; omega)⟩
    obtain ⟨e1, ho⟩ := hin j r x hr hx
    obtain ⟨_, c2, e2, hv1, hv2, _, hv4⟩ := ho.arr intCell_len
    simp only [Value.slice.injEq] at e2
    obtain ⟨rfl, -, rfl⟩ := e2
    exact ⟨r.1, r.2.2, by rw [← e1]; exact hc j r hr 0 _ rfl, hv1, hv2, flat_intsA hv4⟩
  · obtain ⟨r, hr⟩ : ∃ r, K[j]? = some r := ⟨_, List.getElem?_eq_getElem (by have := (List.getElem?_eq_some_iff.1 hx).1; omega)⟩
    have h5 := hcell g off hq j r hr
    rw [hp] at h5
    obtain ⟨rfl, -, -⟩ : p = r.1 ∧ n = r.2.1 ∧ k = r.2.2 := by simpa using h5
    exact (hin j r l hr hx).2.free intCell_len l.length

/-- How a slice that a map holds is read: as it is. -/
def rawElem (v : Value) : Option (DataW Value × List MemPlace) := some (.held v, [])
/-- What is held of the kept lists: the map in block m, each list in blocks with S. -/
structure KeptP (w : World) (S : Nat → Prop) (m : Nat) (F : Kept) (n : Nat) : Prop where
  own : ∃ D : DataW Value, w.ownsMap Try.prog 9 rawElem m n D ∧ (∀ s, Maps.has D (.string s) = (F s).isSome) ∧
    ∀ s L, F s = some L → ∃ q c lo hi, (∀ z, D.atKey (.string s) z = .held (.slice q L.length c)) ∧ L.length ≤ c ∧ c ≤ 9223372036854775807 ∧ ListsA w lo hi q L ∧ hi ≤ w.heap.size ∧ ((∀ k, lo ≤ k → k < hi → S k) ∧ ¬ (lo ≤ m ∧ m < hi)) ∧ L.length ≤ 1000 ∧ ∀ x ∈ L, x.length * 8 ≤ 140737488355328
/-- At p lies a store: the tables l; what is kept, F. -/
structure StP (w : World) (S : Nat → Prop) (p : Nat) (l : List Tab) (F : Kept) (n : Nat) : Prop where
  right : TabsP l
  low : ∀ k, S k → k < w.heap.size
  few : n ≤ 1000
  at_ : ∃ q c m lo hi, (w.cell? ⟨p, 0, none⟩ = some (.slice q l.length c) ∧ w.cell? ⟨p, 1, none⟩ = some (.map (some m))) ∧ l.length ≤ c ∧ c ≤ 9223372036854775807 ∧ TabsA w lo hi q l ∧ hi ≤ w.heap.size ∧ (∀ k, lo ≤ k → k < hi → S k) ∧ (S p ∧ S m ∧ p ≠ m ∧ ¬ (lo ≤ m ∧ m < hi)) ∧ KeptP w S m F n

theorem KeptP.keep {w w' : World} {S T : Nat → Prop} {m : Nat} {F : Kept} {n : Nat} (h : KeptP w S m F n) (o : Out T w w') (hT : ∀ k, T k → ¬ S k) (hm : S m) : KeptP w' S m F n := by
  obtain ⟨D, h1, h2, h3⟩ := h.own
  have hlm := h1.lt
  obtain ⟨es, clock, hb, hr⟩ := h1
  refine ⟨D, ⟨es, clock, by rw [o.block m hlm (fun ht => hT m ht hm)]; exact hb, hr⟩, h2, fun s L hs => ?_⟩
  obtain ⟨q, c, lo, hi, a1, a2, a3, a4, a5, a6, a7⟩ := h3 s L hs
  exact ⟨q, c, lo, hi, a1, a2, a3, a4.same (Same.out o a5 (fun k hk hin => hT k hk (a6.1 k hin.1 hin.2))), Nat.le_trans a5 o.size, a6, a7⟩
theorem StP.keep {w w' : World} {S T : Nat → Prop} {p : Nat} {l : List Tab} {F : Kept} {n : Nat} (h : StP w S p l F n) (o : Out T w w') (hT : ∀ k, T k → ¬ S k) : StP w' S p l F n := by
  refine ⟨h.right, fun k hk => Nat.lt_of_lt_of_le (h.low k hk) o.size, h.few, ?_⟩
  obtain ⟨q, c, m, lo, hi, ⟨a0, a1⟩, a2, a3, a4, a5, a6, ⟨a7, a8, a9, a11⟩, a10⟩ := h.at_
  have hbp := o.block p (h.low p a7) (fun ht => hT p ht a7)
  exact ⟨q, c, m, lo, hi, ⟨(World.cell?_of_block (a := ⟨p, 0, none⟩) hbp).trans a0, (World.cell?_of_block (a := ⟨p, 1, none⟩) hbp).trans a1⟩, a2, a3, a4.same (Same.out o a5 (fun k hk hin => hT k hk (a6 k hin.1 hin.2))), Nat.le_trans a5 o.size, a6, ⟨a7, a8, a9, a11⟩, a10.keep o hT a8⟩

theorem within_any (f : FuncId) (hf : f = 32 ∨ f = 33) (q : Option Addr) (l c : Nat) (i : Int) (w : World) :
    Calls Try.prog f #[.slice q l c, .int .i64 i] w fun e w' => e = .returned (.bool (decide (0 ≤ i ∧ i < (l : Int)))) ∧ w' = w := by
  obtain ⟨b, hb⟩ : ∃ b, b = decide (0 ≤ i ∧ i < (l : Int)) := ⟨_, rfl⟩
  rw [← hb]
  rcases hf with rfl | rfl
  · by_cases h1 : 0 ≤ i
    · by_cases h2 : i < (l : Int)
      · obtain rfl : b = true := by rw [hb]; simp [h1, h2]
        clear hb
        go_enter Try.func32, Try.ntmps32
        go_wp2
        go_ret
        exact ⟨rfl, rfl⟩
      · obtain rfl : b = false := by rw [hb]; simp [h2]
        clear hb
        go_enter Try.func32, Try.ntmps32
        go_wp2
        go_ret
        exact ⟨rfl, rfl⟩
    · obtain rfl : b = false := by rw [hb]; simp [h1]
      clear hb
      go_enter Try.func32, Try.ntmps32
      go_wp2
      go_ret
      exact ⟨rfl, rfl⟩
  · by_cases h1 : 0 ≤ i
    · by_cases h2 : i < (l : Int)
      · obtain rfl : b = true := by rw [hb]; simp [h1, h2]
        clear hb
        go_enter Try.func33, Try.ntmps33
        go_wp2
        go_ret
        exact ⟨rfl, rfl⟩
      · obtain rfl : b = false := by rw [hb]; simp [h2]
        clear hb
        go_enter Try.func33, Try.ntmps33
        go_wp2
        go_ret
        exact ⟨rfl, rfl⟩
    · obtain rfl : b = false := by rw [hb]; simp [h1]
      clear hb
      go_enter Try.func33, Try.ntmps33
      go_wp2
      go_ret
      exact ⟨rfl, rfl⟩

theorem find_any (w : World) (S : Nat → Prop) (p : Nat) (l : List Tab) (F : Kept) (n : Nat) (s : ByteArray) (h : StP w S p l F n) :
    Calls Try.prog 14 #[.pointer (some ⟨p, 0, none⟩), .string s] w fun e w' => e = .returned (.int .i64 (findT s l)) ∧ Below w.heap.size w w' := by
  obtain ⟨q, c, m, lo, hi, ⟨a0, a1⟩, a2, a3, a4, a5, -⟩ := h.at_
  have FN := Lib.hid (place_any l s q l.length c lo hi w rfl a2 a3 a4 a5)
  clear a4 h
  go_enter Try.func14, Try.ntmps14
  go_wp2_with fail
  refine (FN.out).mono ?_
  rintro e w1 ⟨rfl, hb⟩
  go_wp2
  go_ret
  exact ⟨rfl, hb⟩

/-- A place of a list, or none. -/
theorem nth_cases {α : Type} (l : List α) (i : Int) : (∃ (k : Nat) (x : α), i = k ∧ k < l.length ∧ l[k]? = some x ∧ nth l i = some x) ∨ (¬ (0 ≤ i ∧ i < (l.length : Int)) ∧ nth l i = none) := by
  by_cases h : 0 ≤ i ∧ i < (l.length : Int)
  · obtain ⟨k, rfl⟩ := Int.eq_ofNat_of_zero_le h.1
    have hk : k < l.length := by omega
    exact .inl ⟨k, l[k], rfl, hk, List.getElem?_eq_getElem hk, by rw [nth_nat]; exact List.getElem?_eq_getElem hk⟩
  · refine .inr ⟨h, ?_⟩
    unfold nth
    split
    · exact List.getElem?_eq_none (by omega)
    · rfl

set_option maxHeartbeats 1000000 in
theorem many_any (w : World) (S : Nat → Prop) (p : Nat) (l : List Tab) (F : Kept) (n : Nat) (i : Int) (h : StP w S p l F n) :
    Calls Try.prog 15 #[.pointer (some ⟨p, 0, none⟩), .int .i64 i] w fun e w' => e = .returned (.int .i64 (manyT l i)) ∧ Below w.heap.size w w' := by
  obtain ⟨q, c, m, lo, hi, ⟨a0, a1⟩, a2, a3, a4, a5, -⟩ := h.at_
  clear h
  have W := Lib.hid (within_any 32 (.inl rfl) q l.length c i w)
  rcases nth_cases l i with ⟨k, t, rfl, hk, ht, hn⟩ | ⟨hno, hn⟩
  · obtain ⟨g, off, rfl, hg1, hg2, hcA⟩ := a4 k hk
    obtain ⟨-, -, p2, c2, b2, b3, b4, -⟩ := hcA k t ht
    have e : manyT l (k : Int) = (t.rows.length : Int) := by unfold manyT; rw [hn]
    rw [e]
    have WT := Lib.hid (show decide (0 ≤ (k : Int) ∧ (k : Int) < (l.length : Int)) = true from decide_eq_true (by omega))
    rw [WT.out] at W
    clear hcA a4 hn e ht
    go_enter Try.func15, Try.ntmps15
    go_wp2_with fail
    refine (W.out).mono ?_
    rintro e w1 ⟨rfl, rfl⟩
    go_wp2
    go_ret
    exact ⟨rfl, Below.refl _ _⟩
  · have e : manyT l i = 0 := by unfold manyT; rw [hn]
    rw [e]
    rw [decide_eq_false hno] at W
    clear hno hn e a4
    go_enter Try.func15, Try.ntmps15
    go_wp2_with fail
    refine (W.out).mono ?_
    rintro e w1 ⟨rfl, rfl⟩
    go_wp2
    go_ret
    exact ⟨rfl, Below.refl _ _⟩

/-- No elements: whatever is asked of them holds. -/
theorem OwnCols.nil (w : World) (base : Nat) : OwnCols w base none 0 [] := ⟨Nat.le_refl _, by omega, fun i h => absurd h (Nat.not_lt_zero _), fun h => absurd h (Nat.lt_irrefl 0)⟩
theorem OwnVals.nil (w : World) (base : Nat) : OwnVals w base none 0 [] := ⟨Nat.le_refl _, by omega, fun i h => absurd h (Nat.not_lt_zero _), fun h => absurd h (Nat.lt_irrefl 0)⟩
theorem OwnLists.nil (w : World) (base : Nat) : OwnLists w base none 0 [] := ⟨Nat.le_refl _, by omega, fun i h => absurd h (Nat.not_lt_zero _), fun _ _ e => by cases e⟩

set_option maxHeartbeats 1000000 in
theorem cols_any (w : World) (S : Nat → Prop) (p : Nat) (l : List Tab) (F : Kept) (n : Nat) (i : Int) (h : StP w S p l F n) :
    Calls Try.prog 16 #[.pointer (some ⟨p, 0, none⟩), .int .i64 i] w fun e w' => (∃ q c, e = .returned (.slice q (colsT l i).length c) ∧ OwnCols w' w.heap.size q c (colsT l i)) ∧ Below w.heap.size w w' := by
  have hR := h.right
  obtain ⟨q, c, m, lo, hi, ⟨a0, a1⟩, a2, a3, a4, a5, -⟩ := h.at_
  clear h
  have W := Lib.hid (within_any 32 (.inl rfl) q l.length c i w)
  rcases nth_cases l i with ⟨k, t, rfl, hk, ht, hn⟩ | ⟨hno, hn⟩
  · obtain ⟨g, off, rfl, hg1, hg2, hcA⟩ := a4 k hk
    obtain ⟨-, ⟨p2, c2, b2, b3, b4, b5⟩, -⟩ := hcA k t ht
    have e : colsT l (k : Int) = t.cols := by unfold colsT; rw [hn]
    rw [e]
    have WT := Lib.hid (show decide (0 ≤ (k : Int) ∧ (k : Int) < (l.length : Int)) = true from decide_eq_true (by omega))
    rw [WT.out] at W
    have h6 : t.cols.length ≤ 6 := (hR.2 k t ht).1.2.1.2
    have CC := Lib.hid (copiedC_any t.cols p2 c2 lo hi w (by omega) b5 a5)
    have NN := Lib.hid b5.names
    clear hcA a4 hn e ht hR b5
    go_enter Try.func16, Try.ntmps16
    go_wp2_with fail
    refine (W.out).mono ?_
    rintro e w1 ⟨rfl, rfl⟩
    go_wp2_with fail
    refine (CC.out).mono ?_
    rintro e w2 ⟨q2, c3, rfl, O, B⟩
    go_wp2
    go_ret
    exact ⟨⟨q2, c3, rfl, (O.cols NN.out).2⟩, B⟩
  · have e : colsT l i = [] := by unfold colsT; rw [hn]
    rw [e]
    rw [decide_eq_false hno] at W
    clear hno hn e a4
    go_enter Try.func16, Try.ntmps16
    go_wp2_with fail
    refine (W.out).mono ?_
    rintro e w1 ⟨rfl, rfl⟩
    go_wp2
    go_ret
    exact ⟨⟨none, 0, rfl, OwnCols.nil _ _⟩, Below.refl _ _⟩

set_option maxHeartbeats 2000000 in
theorem row_any (w : World) (S : Nat → Prop) (p : Nat) (l : List Tab) (F : Kept) (n : Nat) (i j : Int) (h : StP w S p l F n) :
    Calls Try.prog 17 #[.pointer (some ⟨p, 0, none⟩), .int .i64 i, .int .i64 j] w fun e w' =>
      (∃ q c, e = .returned (.tuple #[.slice q ((rowT l i j).getD []).length c, .bool (rowT l i j).isSome]) ∧ OwnVals w' w.heap.size q c ((rowT l i j).getD [])) ∧ Below w.heap.size w w' := by
  have hR := h.right
  obtain ⟨q, c, m, lo, hi, ⟨a0, a1⟩, a2, a3, a4, a5, -⟩ := h.at_
  clear h
  have W := Lib.hid (within_any 32 (.inl rfl) q l.length c i w)
  rcases nth_cases l i with ⟨k, t, rfl, hk, ht, hn⟩ | ⟨hno, hn⟩
  · obtain ⟨g, off, rfl, hg1, hg2, hcA⟩ := a4 k hk
    obtain ⟨-, -, p2, c2, b2, b3, b4, b5⟩ := hcA k t ht
    have e : rowT l (k : Int) j = nth t.rows j := by unfold rowT; rw [hn]
    rw [e]
    have WT := Lib.hid (show decide (0 ≤ (k : Int) ∧ (k : Int) < (l.length : Int)) = true from decide_eq_true (by omega))
    rw [WT.out] at W
    have V := Lib.hid (within_any 33 (.inr rfl) p2 t.rows.length c2 j w)
    have hT := (hR.2 k t ht).1
    rcases nth_cases t.rows j with ⟨k2, r, rfl, hk2, hr, hn2⟩ | ⟨hno, hn2⟩
    · obtain ⟨g', off', rfl, hg3, hg4, hcB⟩ := b5 k2 hk2
      obtain ⟨pr, cr, d0, d1, d2, d3⟩ := hcB k2 r hr
      rw [Nat.mul_one] at d0
      rw [hn2]
      have VT := Lib.hid (show decide (0 ≤ (k2 : Int) ∧ (k2 : Int) < (t.rows.length : Int)) = true from decide_eq_true (by omega))
      rw [VT.out] at V
      have h6 : r.length ≤ 6 := by have h1 := (hT.2.2.2.2 k2 r hr).1; have h2 := hT.2.1.2; omega
      have CC := Lib.hid (copiedV_any r pr cr lo hi w (by omega) d3 a5)
      clear hcA a4 hn e ht hR b5 hcB d3 hT hr hn2
      go_enter Try.func17, Try.ntmps17
      go_wp2_with fail
      refine (W.out).mono ?_
      rintro e w1 ⟨rfl, rfl⟩
      go_wp2_with fail
      refine (V.out).mono ?_
      rintro e w1 ⟨rfl, rfl⟩
      go_wp2_with fail
      refine (CC.out).mono ?_
      rintro e w2 ⟨q2, c3, rfl, O, B⟩
      go_wp2
      refine bodyPost_ret (v := .tuple #[.slice q2 r.length c3, .bool true]) (by simp [results, Try.results17, go_sem]) rfl ⟨⟨q2, c3, rfl, (O.vals).2⟩, B⟩
    · rw [hn2]
      rw [decide_eq_false hno] at V
      clear hcA a4 hn e ht hR b5 hT hno hn2
      go_enter Try.func17, Try.ntmps17
      go_wp2_with fail
      refine (W.out).mono ?_
      rintro e w1 ⟨rfl, rfl⟩
      go_wp2_with fail
      refine (V.out).mono ?_
      rintro e w1 ⟨rfl, rfl⟩
      go_wp2
      refine bodyPost_ret (v := .tuple #[.slice none 0 0, .bool false]) (by simp [results, Try.results17, go_sem]) rfl ⟨⟨none, 0, rfl, OwnVals.nil _ _⟩, Below.refl _ _⟩
  · have e : rowT l i j = none := by unfold rowT; rw [hn]
    rw [e]
    rw [decide_eq_false hno] at W
    clear hno hn e a4 hR
    go_enter Try.func17, Try.ntmps17
    go_wp2_with fail
    refine (W.out).mono ?_
    rintro e w1 ⟨rfl, rfl⟩
    go_wp2
    refine bodyPost_ret (v := .tuple #[.slice none 0 0, .bool false]) (by simp [results, Try.results17, go_sem]) rfl ⟨⟨none, 0, rfl, OwnVals.nil _ _⟩, Below.refl _ _⟩

end Go.Proofs.Ytkeekefekajfnaa
