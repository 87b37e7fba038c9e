/- Rows compared; tables of a call's own that may be written, whatever stands in them. -/
import Derived.Test.YtkeekefekajfnaaSgJ
import Derived.BigQuiet
namespace Go.Proofs.Ytkeekefekajfnaa
open Go.RowKit Go.Deep
set_option maxRecDepth 100000

set_option maxHeartbeats 4000000 in
theorem rows5_any (X : List (List Val)) (qa qb : Option Addr) (ca cb l1 h1 l2 h2 : Nat) (w : World) (_ : X.length ≤ ca) (_ : ca ≤ 9223372036854775807) (_ : X.length ≤ cb) (_ : cb ≤ 9223372036854775807) (hA : RowsA w l1 h1 qa X) (hB : RowsA w l2 h2 qb X) (hh1 : h1 ≤ w.heap.size) (hh2 : h2 ≤ w.heap.size) :
    Calls Try.prog 18 #[.slice qa X.length ca, .slice qb X.length cb] w fun e w' => e = .returned (.bool true) ∧ Below w.heap.size w w' := by
  have HA := Lib.hid hA
  have HB := Lib.hid hB
  clear hA hB
  go_enter Try.func18, Try.ntmps18
  go_wp2
  go_loopw [5] (fun vi wr => ∃ i : Nat, vi = .int .i64 i ∧ i ≤ X.length ∧ Hid (Below w.heap.size w wr)) (fun vi _ => X.length - (intOf vi).toNat)
  case atStart => exact ⟨0, rfl, Nat.zero_le _, Below.refl _ _⟩
  case round =>
    obtain ⟨i, rfl, hi, HH⟩ := hrel
    obtain ⟨V, hV⟩ : ∃ V, V = wr := ⟨_, rfl⟩
    subst hV
    by_cases hlt : i < X.length
    · obtain ⟨x, hx⟩ : ∃ x, X[i]? = some x := ⟨_, List.getElem?_eq_getElem hlt⟩
      obtain ⟨g, off, rfl, hg1, hg2, hcA⟩ := (HA.out.same (Same.of HH.out hh1)) i hlt
      obtain ⟨pa, da, a0, a1, a2, a3⟩ := hcA i x hx
      obtain ⟨g', off', rfl, hg3, hg4, hcB⟩ := (HB.out.same (Same.of HH.out hh2)) i hlt
      obtain ⟨pb, db, b0, b1, b2, b3⟩ := hcB i x hx
      rw [Nat.mul_one] at a0 b0
      have A3 := Lib.hid a3
      have B3 := Lib.hid b3
      have hsV := HH.out.size
      clear hcA hcB a3 b3 hx
      go_wp2_with fail
      go_big_quiet (fail)
      have HD := Lib.hid (ext_drewN (ext_refl V) nq)
      obtain ⟨U, hU⟩ : ∃ U, U = V.drewN nq := ⟨_, rfl⟩
      rw [← hU] at HD ⊢
      have u0 : U.cell? ⟨g, off + i, none⟩ = some (.slice pa x.length da) := by rw [hU]; exact a0
      have v0 : U.cell? ⟨g', off' + i, none⟩ = some (.slice pb x.length db) := by rw [hU]; exact b0
      have hsU := HD.out.size
      clear hU a0 b0
      go_wp2_with fail
      go_loopw [6] (fun vk wx => ∃ k : Nat, vk = .int .i64 k ∧ k ≤ x.length ∧ Hid (Below U.heap.size U wx)) (fun vk _ => x.length - (intOf vk).toNat)
      case atStart => exact ⟨0, rfl, Nat.zero_le _, Below.refl _ _⟩
      case round =>
        obtain ⟨k, rfl, hk, HK⟩ := hrel
        have m0 := (HK.out.cell (p := ⟨g, off + i, none⟩) (show g < U.heap.size by omega)).trans u0
        have n0 := (HK.out.cell (p := ⟨g', off' + i, none⟩) (show g' < U.heap.size by omega)).trans v0
        by_cases hkl : k < x.length
        · have BV := Lib.hid (show Below V.heap.size V wr from HD.out.trans (HK.out.mono hsU))
          obtain ⟨y, hy⟩ : ∃ y, x[k]? = some y := ⟨_, List.getElem?_eq_getElem hkl⟩
          obtain ⟨ga, oa, rfl, ha1, ha2, hva⟩ := (A3.out.same (Same.of BV.out (by omega))) k hkl
          obtain ⟨gb, ob, rfl, hb1, hb2, hvb⟩ := (B3.out.same (Same.of BV.out (by omega))) k hkl
          obtain ⟨x0, x1, x2⟩ := hva k y hy
          obtain ⟨y0, y1, y2⟩ := hvb k y hy
          clear hva hvb hy
          go_wp2_with fail
          go_big_quiet (fail)
          go_wp2
          go_roundw
          case rel => exact ⟨k + 1, by go_num, hkl, HK.out.trans ((ext_drewN (ext_refl wr) nq).mono HK.out.size)⟩
          case measure => simp [intOf] <;> omega
        · go_wp2
          go_roundw
          case rel => exact ⟨i + 1, by go_num, hlt, HH.out.trans ((HD.out.trans (HK.out.mono hsU)).mono hsV)⟩
          case measure => simp [intOf] <;> omega
    · go_wp2
      go_ret
      exact ⟨rfl, HH.out⟩

/-- Block g holds things of type T, and may be written. -/
def TyB (W : World) (g : Nat) (T : TypeId) : Prop := ∃ cur, W.heap[g]? = some (.cells cur T (0, 0))
theorem TyB.frozen {W : World} {g : Nat} {T : TypeId} (h : TyB W g T) (o : Nat) : W.frozen? ⟨g, o, none⟩ = false := by
  obtain ⟨cur, h⟩ := h
  exact Lib.frozen_of_heap h o
theorem TyB.ne {W : World} {g g' : Nat} {T T' : TypeId} (h : TyB W g T) (h' : TyB W g' T') (hT : T ≠ T') : g ≠ g' := fun e => by
  obtain ⟨c, h⟩ := h
  obtain ⟨c', h'⟩ := h'
  rw [e, h'] at h
  injection h with h
  injection h with _ h
  exact hT h.symm
theorem TyB.set {W : World} {g b o : Nat} {T : TypeId} {u : Value} (h : TyB W g T) : TyB (W.setCell ⟨b, o, none⟩ u) g T := by
  obtain ⟨c, h⟩ := h
  by_cases e : g = b
  · subst e
    refine ⟨c.setIfInBounds o u, ?_⟩
    rw [setCell_eq_setRow W g o _ _ _ _ h]
    exact setRow_heap W g _ _ _ _ h
  · exact ⟨c, by
      have hl : g < W.heap.size := by
        rcases Nat.lt_or_ge g W.heap.size with h1 | h1
        · exact h1
        · rw [Array.getElem?_eq_none h1] at h; cases h
      exact ((Out.set (S := fun k => k = b) (⟨b, o, none⟩ : Addr) u rfl).block g hl e).trans h⟩
theorem TyB.keep {W W' : World} {g : Nat} {T : TypeId} (h : TyB W g T) (hb : W'.heap[g]? = W.heap[g]?) : TyB W' g T := by
  obtain ⟨c, h⟩ := h
  exact ⟨c, hb.trans h⟩

/-- The elements' cells at the head of a block from lo on and below hi. -/
def ArrO {α : Type} (lo hi : Nat) (q : Option Addr) (sz : Nat) (l : List α) (P : Nat → Nat → α → Prop) : Prop :=
  ∀ i, i < l.length → ∃ g, q = some ⟨g, 0, none⟩ ∧ lo ≤ g ∧ g < hi ∧ ∀ j x, l[j]? = some x → P g (j * sz) x
theorem ArrO.imp {α : Type} {lo hi : Nat} {q : Option Addr} {sz : Nat} {l : List α} {P P' : Nat → Nat → α → Prop} (h : ArrO lo hi q sz l P) (hp : ∀ g j x, lo ≤ g → g < hi → q = some ⟨g, 0, none⟩ → l[j]? = some x → P g (j * sz) x → P' g (j * sz) x) : ArrO lo hi q sz l P' := fun i hi => by
  obtain ⟨g, h1, h2, h3, h4⟩ := h i hi
  exact ⟨g, h1, h2, h3, fun j x hx => hp _ _ _ h2 h3 h1 hx (h4 j x hx)⟩
def ColW (W : World) (g o : Nat) (_ : Col) : Prop := TyB W g 39 ∧ (∃ s, W.cell? ⟨g, o, none⟩ = some (.string s)) ∧ ∃ z : Int, W.cell? ⟨g, o + 1, none⟩ = some (.int .i64 z)
def ValW (W : World) (g o : Nat) (_ : Val) : Prop := TyB W g 37 ∧ ∃ y : Val, valC W g o y
def RowW (W : World) (lo hi : Nat) (g o : Nat) (x : List Val) : Prop := TyB W g 31 ∧ ∃ p c, W.cell? ⟨g, o, none⟩ = some (.slice p x.length c) ∧ x.length ≤ c ∧ ArrO lo hi p 3 x (ValW W)
def TabW (W : World) (lo hi : Nat) (g o : Nat) (t : Tab) : Prop := TyB W g 30 ∧ (∃ s, W.cell? ⟨g, o, none⟩ = some (.string s)) ∧ (∃ p c, W.cell? ⟨g, o + 1, none⟩ = some (.slice p t.cols.length c) ∧ t.cols.length ≤ c ∧ ArrO lo hi p 2 t.cols (ColW W)) ∧
  ∃ p c, W.cell? ⟨g, o + 2, none⟩ = some (.slice p t.rows.length c) ∧ t.rows.length ≤ c ∧ ArrO lo hi p 1 t.rows (RowW W lo hi)
/-- Tables of a call's own, whatever stands in them. -/
def TabsW (W : World) (lo hi : Nat) (q : Option Addr) (l : List Tab) : Prop := ArrO lo hi q 3 l (TabW W lo hi)

theorem cell_keep {W W' : World} {g o : Nat} (hb : W'.heap[g]? = W.heap[g]?) : W'.cell? ⟨g, o, none⟩ = W.cell? ⟨g, o, none⟩ := World.cell?_of_block (w := W) (a := ⟨g, o, none⟩) hb
theorem ColW.keep {W W' : World} {g o : Nat} {c : Col} (h : ColW W g o c) (hb : W'.heap[g]? = W.heap[g]?) : ColW W' g o c := by
  obtain ⟨h1, ⟨s, h2⟩, z, h3⟩ := h
  exact ⟨h1.keep hb, ⟨s, (cell_keep hb).trans h2⟩, z, (cell_keep hb).trans h3⟩
theorem ValW.keep {W W' : World} {g o : Nat} {c : Val} (h : ValW W g o c) (hb : W'.heap[g]? = W.heap[g]?) : ValW W' g o c := by
  obtain ⟨h1, y, a, b, d⟩ := h
  exact ⟨h1.keep hb, y, (cell_keep hb).trans a, (cell_keep hb).trans b, (cell_keep hb).trans d⟩
/-- All that a kind of change leaves: what is said of columns, of values, of rows, of tables. -/
theorem RowW.step {W W' : World} {lo hi g o : Nat} {x : List Val} (h : RowW W lo hi g o x) (h1 : ∀ g, TyB W g 31 → W'.heap[g]? = W.heap[g]?) (h2 : ∀ g j y, ValW W g (j * 3) y → ValW W' g (j * 3) y) : RowW W' lo hi g o x := by
  obtain ⟨a, p, c, b, d, e⟩ := h
  exact ⟨a.keep (h1 g a), p, c, (cell_keep (h1 g a)).trans b, d, e.imp fun g j y _ _ _ _ h => h2 g j y h⟩
theorem TabsW.step {W W' : World} {lo hi : Nat} {q : Option Addr} {l : List Tab} (h : TabsW W lo hi q l) (h0 : ∀ g j t, TabW W lo hi g (j * 3) t → TyB W' g 30 ∧ (∃ s, W'.cell? ⟨g, j * 3, none⟩ = some (.string s)) ∧ W'.cell? ⟨g, j * 3 + 1, none⟩ = W.cell? ⟨g, j * 3 + 1, none⟩ ∧ W'.cell? ⟨g, j * 3 + 2, none⟩ = W.cell? ⟨g, j * 3 + 2, none⟩)
    (h1 : ∀ g, TyB W g 31 → W'.heap[g]? = W.heap[g]?) (h2 : ∀ g j y, ValW W g (j * 3) y → ValW W' g (j * 3) y) (h3 : ∀ g j y, ColW W g (j * 2) y → ColW W' g (j * 2) y) : TabsW W' lo hi q l :=
  ArrO.imp h fun g j t _ _ _ _ ht => by
    obtain ⟨e0, e1, e2, e3⟩ := h0 g j t ht
    obtain ⟨a, b, ⟨p, c, c1, c2, c3⟩, p', c', d1, d2, d3⟩ := ht
    exact ⟨e0, e1, ⟨p, c, e2.trans c1, c2, c3.imp fun g j y _ _ _ _ h => h3 g j y h⟩, p', c', e3.trans d1, d2, d3.imp fun g j y _ _ _ _ h => h.step h1 h2⟩
theorem TabsW.keep {W W' : World} {lo hi : Nat} {q : Option Addr} {l : List Tab} (h : TabsW W lo hi q l) (hb : ∀ g, g < W.heap.size → W'.heap[g]? = W.heap[g]?) : TabsW W' lo hi q l := by
  have hty : ∀ {g T}, TyB W g T → W'.heap[g]? = W.heap[g]? := fun {g T} h => by
    obtain ⟨c, h⟩ := h
    refine hb g ?_
    rcases Nat.lt_or_ge g W.heap.size with h1 | h1
    · exact h1
    · rw [Array.getElem?_eq_none h1] at h; cases h
  refine h.step (fun g j t ht => ?_) (fun g h => hty h) (fun g j y h => h.keep (hty h.1)) (fun g j y h => h.keep (hty h.1))
  have e := hty ht.1
  obtain ⟨s, hs⟩ := ht.2.1
  exact ⟨ht.1.keep e, ⟨s, (cell_keep e).trans hs⟩, cell_keep e, cell_keep e⟩
theorem set_block {W : World} {b o g : Nat} {u : Value} (hg : g < W.heap.size) (hne : g ≠ b) : (W.setCell ⟨b, o, none⟩ u).heap[g]? = W.heap[g]? := (Out.set (S := fun k => k = b) (⟨b, o, none⟩ : Addr) u rfl).block g hg hne
theorem TyB.lt {W : World} {g : Nat} {T : TypeId} (h : TyB W g T) : g < W.heap.size := by
  obtain ⟨c, h⟩ := h
  rcases Nat.lt_or_ge g W.heap.size with h1 | h1
  · exact h1
  · rw [Array.getElem?_eq_none h1] at h; cases h

theorem cell_set {W : World} {b o g o' : Nat} {u v : Value} (h : W.cell? ⟨g, o', none⟩ = some v) : (W.setCell ⟨b, o, none⟩ u).cell? ⟨g, o', none⟩ = some (if g = b ∧ o' = o then u else v) := by
  split
  · rename_i e
    obtain ⟨rfl, rfl⟩ := e
    exact World.cell?_setCell_same _ _ _ h
  · rename_i e
    exact (World.cell?_setCell_other _ _ _ _ (fun k => e (by injection k with k1 k2; exact ⟨k1.symm, k2.symm⟩))).trans h
/-- A name written. -/
theorem TabsW.setName {W : World} {lo hi : Nat} {q : Option Addr} {l : List Tab} {b i : Nat} {s : ByteArray} (h : TabsW W lo hi q l) (hb : TyB W b 30) : TabsW (W.setCell ⟨b, i * 3, none⟩ (.string s)) lo hi q l := by
  refine h.step (fun g j t ht => ?_) (fun g h => set_block h.lt (h.ne hb (by decide))) (fun g j y h => h.keep (set_block h.1.lt (h.1.ne hb (by decide)))) (fun g j y h => h.keep (set_block h.1.lt (h.1.ne hb (by decide))))
  obtain ⟨a, ⟨s0, hs⟩, ⟨p, c, c1, _⟩, p', c', d1, _⟩ := ht
  refine ⟨a.set, ?_, ?_, ?_⟩
  · rw [cell_set hs]
    split
    · exact ⟨_, rfl⟩
    · exact ⟨_, rfl⟩
  · rw [cell_set c1, if_neg (by omega), c1]
  · rw [cell_set d1, if_neg (by omega), d1]
/-- A column's kind written. -/
theorem TabsW.setKind {W : World} {lo hi : Nat} {q : Option Addr} {l : List Tab} {b : Nat} {z : Int} (h : TabsW W lo hi q l) (hb : TyB W b 39) : TabsW (W.setCell ⟨b, 1, none⟩ (.int .i64 z)) lo hi q l := by
  refine h.step (fun g j t ht => ?_) (fun g h => set_block h.lt (h.ne hb (by decide))) (fun g j y h => h.keep (set_block h.1.lt (h.1.ne hb (by decide)))) (fun g j y h => ?_)
  · have e := set_block (o := 1) (u := .int .i64 z) ht.1.lt (ht.1.ne hb (by decide))
    obtain ⟨s, hs⟩ := ht.2.1
    exact ⟨ht.1.keep e, ⟨s, (cell_keep e).trans hs⟩, cell_keep e, cell_keep e⟩
  · obtain ⟨a, ⟨s0, hs⟩, z0, hz⟩ := h
    refine ⟨a.set, ⟨s0, ?_⟩, ?_⟩
    · rw [cell_set hs, if_neg (by omega)]
    · rw [cell_set hz]
      split
      · exact ⟨_, rfl⟩
      · exact ⟨_, rfl⟩
/-- A value written. -/
theorem ValW.set {W : World} {g j b : Nat} {y : Val} {n0 n1 : Int} {s : ByteArray} (h : ValW W g (j * 3) y) : ValW (((W.setCell ⟨b, 0, none⟩ (.int .i64 n0)).setCell ⟨b, 1, none⟩ (.int .i64 n1)).setCell ⟨b, 2, none⟩ (.string s)) g (j * 3) y := by
  obtain ⟨a, x, h0, h1, h2⟩ := h
  refine ⟨a.set.set.set, ?_⟩
  have k0 := cell_set (b := b) (o := 2) (u := .string s) (cell_set (b := b) (o := 1) (u := .int .i64 n1) (cell_set (b := b) (o := 0) (u := .int .i64 n0) h0))
  have k1 := cell_set (b := b) (o := 2) (u := .string s) (cell_set (b := b) (o := 1) (u := .int .i64 n1) (cell_set (b := b) (o := 0) (u := .int .i64 n0) h1))
  have k2 := cell_set (b := b) (o := 2) (u := .string s) (cell_set (b := b) (o := 1) (u := .int .i64 n1) (cell_set (b := b) (o := 0) (u := .int .i64 n0) h2))
  by_cases e : g = b ∧ j = 0
  · obtain ⟨rfl, rfl⟩ := e
    exact ⟨⟨n0, n1, s⟩, by simpa using k0, by simpa using k1, by simpa using k2⟩
  · rw [if_neg (by omega), if_neg (by omega), if_neg (by omega)] at k0 k1 k2
    exact ⟨x, k0, k1, k2⟩
theorem TabsW.setVal {W : World} {lo hi : Nat} {q : Option Addr} {l : List Tab} {b : Nat} {n0 n1 : Int} {s : ByteArray} (h : TabsW W lo hi q l) (hb : TyB W b 37) : TabsW (((W.setCell ⟨b, 0, none⟩ (.int .i64 n0)).setCell ⟨b, 1, none⟩ (.int .i64 n1)).setCell ⟨b, 2, none⟩ (.string s)) lo hi q l := by
  have e : ∀ {g T}, TyB W g T → T ≠ 37 → (((W.setCell ⟨b, 0, none⟩ (.int .i64 n0)).setCell ⟨b, 1, none⟩ (.int .i64 n1)).setCell ⟨b, 2, none⟩ (.string s)).heap[g]? = W.heap[g]? := fun {g T} h hT => by
    have hne := h.ne hb hT
    have hl := h.lt
    rw [set_block (by simpa [World.setCell] using hl) hne, set_block (by simpa [World.setCell] using hl) hne, set_block hl hne]
  refine h.step (fun g j t ht => ?_) (fun g h => e h (by decide)) (fun g j y h => h.set) (fun g j y h => h.keep (e h.1 (by decide)))
  have e := e ht.1 (by decide)
  obtain ⟨s, hs⟩ := ht.2.1
  exact ⟨ht.1.keep e, ⟨s, (cell_keep e).trans hs⟩, cell_keep e, cell_keep e⟩

theorem OwnF.arrO {α : Type} {cells : α → List Value} {sz : Nat} {w : World} {base : Nat} {E : TypeId} {q : Option Addr} {n c : Nat} {l : List α} (hcl : ∀ x, (cells x).length = sz) (h : OwnF w base E sz cells (.slice q n c) l) :
    n = l.length ∧ l.length ≤ c ∧ ArrO base w.heap.size q sz l (fun g o x => TyB w g E ∧ ∀ (k : Nat) u, (cells x)[k]? = some u → w.cell? ⟨g, o + k, none⟩ = some u) := by
  have hty := h.ty
  obtain ⟨q', c', e, k1, k2, hf, k4⟩ := h.arr hcl
  simp only [Value.slice.injEq] at e
  obtain ⟨rfl, rfl, rfl⟩ := e
  refine ⟨rfl, k1, fun i hi => ?_⟩
  obtain ⟨g, off, hq, g1, g2, hc⟩ := k4 i hi
  obtain ⟨rfl, _⟩ := hf g off hq
  exact ⟨g, hq, g1, g2, fun j x hx => ⟨hty g (by rw [hq]; rfl), fun k u hk => by have := hc j x hx k u hk; rwa [Nat.zero_add] at this⟩⟩
theorem TabsOwn.weak {w : World} {base : Nat} {q : Option Addr} {n c : Nat} {l : List Tab} (h : TabsOwn w base (.slice q n c) l) : TabsW w base w.heap.size q l := by
  obtain ⟨K, hK, hl, hin⟩ := h.outer
  obtain ⟨_, _, ha⟩ := hK.arrO tabCell_len
  intro i hi
  obtain ⟨g, hq, g1, g2, hc⟩ := ha i (by omega)
  refine ⟨g, hq, g1, g2, fun j t ht => ?_⟩
  obtain ⟨r, hr⟩ : ∃ r, K[j]? = some r := ⟨_, List.getElem?_eq_getElem (by have := (List.getElem?_eq_some_iff.1 ht).1; omega)⟩
  obtain ⟨_, hco, hro⟩ := hin j r t hr ht
  obtain ⟨hty, hcell⟩ := hc j r hr
  obtain ⟨c1, c2, c3⟩ := hco.arrO colCell_len
  obtain ⟨KR, hKR, hKl, hKin⟩ := hro.outer
  obtain ⟨r1, r2, r3⟩ := hKR.arrO rawCell_len
  refine ⟨hty, ⟨_, hcell 0 _ rfl⟩, ⟨r.qc, r.cc, ?_, c2, c3.imp fun g j y _ _ _ _ h => ⟨h.1, ⟨_, h.2 0 _ rfl⟩, _, h.2 1 _ rfl⟩⟩, r.qr, r.cr, ?_, by omega, fun i hi => ?_⟩
  · rw [← c1]; exact hcell 1 _ rfl
  · rw [← hKl, ← r1]; exact hcell 2 _ rfl
  · obtain ⟨g', hq', g3, g4, hc'⟩ := r3 i (by omega)
    refine ⟨g', hq', g3, g4, fun j x hx => ?_⟩
    obtain ⟨ra, hra⟩ : ∃ ra, KR[j]? = some ra := ⟨_, List.getElem?_eq_getElem (by have := (List.getElem?_eq_some_iff.1 hx).1; omega)⟩
    obtain ⟨e1, hv⟩ := hKin j ra x hra hx
    obtain ⟨v1, v2, v3⟩ := hv.arrO valCell_len
    obtain ⟨t1, t2⟩ := hc' j ra hra
    exact ⟨t1, ra.1, ra.2.2, by rw [← e1]; exact t2 0 _ rfl, v2, v3.imp fun g j y _ _ _ _ h => ⟨h.1, y, h.2 0 _ rfl, h.2 1 _ rfl, h.2 2 _ rfl⟩⟩

end Go.Proofs.Ytkeekefekajfnaa
