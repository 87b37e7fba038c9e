/- The developers' copied: an expression with lists of operands of its own. -/
import Derived.Test.YtiidfghdmaipoaaDoorSpA
import Derived.Deep.RegionHeld3
namespace Go.Proofs.YtiidfghdmaipoaaDoor
open Go.RowKit Go.Deep
set_option maxRecDepth 100000

theorem OwnE.set1 {w : World} {b g n c i k : Nat} {K : List RawE} {r r' : RawE} {u : Value} (h : OwnE w b (.slice (some ⟨g, 0, none⟩) n c) (K.set i r)) (hi : i < K.length) (hk : k < 9) (hx : r'.cells = r.cells.set k u) : OwnE (w.setCell ⟨g, i * 9 + k, none⟩ u) b (.slice (some ⟨g, 0, none⟩) n c) (K.set i r') := by
  have h1 := OwnF.setc RawE.cells_len h (List.getElem?_set_self hi) hk hx
  rw [List.set_set] at h1
  exact h1
/-- The world in which an expression's cells are written anew. -/
abbrev setE (w : World) (g o : Nat) (r : RawE) : World := ((((((((w.setCell ⟨g, o, none⟩ (.int .i64 r.op)).setCell ⟨g, o + 1, none⟩ (.int .i64 r.v.k)).setCell ⟨g, o + 2, none⟩ (.int .i64 r.v.n)).setCell ⟨g, o + 3, none⟩ (.string r.v.s)).setCell ⟨g, o + 4, none⟩ (.int .i64 r.rel)).setCell ⟨g, o + 5, none⟩ (.int .i64 r.col)).setCell ⟨g, o + 6, none⟩ (.int .i64 r.n)).setCell ⟨g, o + 7, none⟩ (.string r.s)).setCell ⟨g, o + 8, none⟩ (.slice r.q r.len r.c)
theorem OwnE.setAll {w : World} {b g n c i : Nat} {K : List RawE} (r' : RawE) (h : OwnE w b (.slice (some ⟨g, 0, none⟩) n c) K) (hi : i < K.length) : OwnE (setE w g (i * 9) r') b (.slice (some ⟨g, 0, none⟩) n c) (K.set i r') := by
  obtain ⟨op, ⟨vk, vn, vs⟩, rel, col, nn, s, q, len, cc⟩ := r'
  obtain ⟨r0, h0⟩ : ∃ r0, OwnE w b (.slice (some ⟨g, 0, none⟩) n c) (K.set i r0) := ⟨K[i], by rw [List.set_getElem_self]; exact h⟩
  obtain ⟨op0, ⟨vk0, vn0, vs0⟩, rel0, col0, nn0, s0, q0, len0, cc0⟩ := r0
  have h1 := OwnE.set1 (k := 0) (u := .int .i64 op) (r' := ⟨op, ⟨vk0, vn0, vs0⟩, rel0, col0, nn0, s0, q0, len0, cc0⟩) h0 hi (by decide) rfl
  have h2 := OwnE.set1 (k := 1) (u := .int .i64 vk) (r' := ⟨op, ⟨vk, vn0, vs0⟩, rel0, col0, nn0, s0, q0, len0, cc0⟩) h1 hi (by decide) rfl
  have h3 := OwnE.set1 (k := 2) (u := .int .i64 vn) (r' := ⟨op, ⟨vk, vn, vs0⟩, rel0, col0, nn0, s0, q0, len0, cc0⟩) h2 hi (by decide) rfl
  have h4 := OwnE.set1 (k := 3) (u := .string vs) (r' := ⟨op, ⟨vk, vn, vs⟩, rel0, col0, nn0, s0, q0, len0, cc0⟩) h3 hi (by decide) rfl
  have h5 := OwnE.set1 (k := 4) (u := .int .i64 rel) (r' := ⟨op, ⟨vk, vn, vs⟩, rel, col0, nn0, s0, q0, len0, cc0⟩) h4 hi (by decide) rfl
  have h6 := OwnE.set1 (k := 5) (u := .int .i64 col) (r' := ⟨op, ⟨vk, vn, vs⟩, rel, col, nn0, s0, q0, len0, cc0⟩) h5 hi (by decide) rfl
  have h7 := OwnE.set1 (k := 6) (u := .int .i64 nn) (r' := ⟨op, ⟨vk, vn, vs⟩, rel, col, nn, s0, q0, len0, cc0⟩) h6 hi (by decide) rfl
  have h8 := OwnE.set1 (k := 7) (u := .string s) (r' := ⟨op, ⟨vk, vn, vs⟩, rel, col, nn, s, q0, len0, cc0⟩) h7 hi (by decide) rfl
  exact OwnE.set1 (k := 8) (u := .slice q len cc) (r' := ⟨op, ⟨vk, vn, vs⟩, rel, col, nn, s, q, len, cc⟩) h8 hi (by decide) rfl
theorem setE_out (w : World) (g o : Nat) (r : RawE) : Out (fun k => k = g) w (setE w g o r) := by
  have e : ∀ (W : World) (o : Nat) (u : Value), Out (fun k => k = g) W (W.setCell ⟨g, o, none⟩ u) := fun W o u => Out.set ⟨g, o, none⟩ u rfl
  exact ((((((((e _ _ _).trans (e _ _ _)).trans (e _ _ _)).trans (e _ _ _)).trans (e _ _ _)).trans (e _ _ _)).trans (e _ _ _)).trans (e _ _ _)).trans (e _ _ _)
/-- An expression's cells in block g, that may be written. -/
structure XB (W : World) (g : Nat) (r : RawE) : Prop where
  lt : g < W.heap.size
  c : ∀ k u, r.cells[k]? = some u → W.cell? ⟨g, k, none⟩ = some u
  fz : ∀ o, W.frozen? ⟨g, o, none⟩ = false
theorem XB.on {W W' : World} {g : Nat} {r : RawE} (h : XB W g r) (hb : Below W.heap.size W W') : XB W' g r :=
  ⟨Nat.lt_of_lt_of_le h.lt hb.size, fun k u hu => (hb.cell (p := ⟨g, k, none⟩) h.lt).trans (h.c k u hu), fun o => (hb.frozen (p := ⟨g, o, none⟩) h.lt).trans (h.fz o)⟩
theorem XB.out {S : Nat → Prop} {W W' : World} {g : Nat} {r : RawE} (h : XB W g r) (o : Out S W W') (hS : ¬ S g) : XB W' g r :=
  ⟨Nat.lt_of_lt_of_le h.lt o.size, fun k u hu => (World.cell?_of_block (w := W) (o.block g h.lt hS)).trans (h.c k u hu), fun k => by
    have h1 := h.fz k
    have h2 := o.block g h.lt hS
    unfold World.frozen? at h1 ⊢
    rw [h2]
    exact h1⟩
theorem XB.new (W : World) (r : RawE) (T : TypeId) : XB (W.alloc (.cells r.cells.toArray T)) W.heap.size r :=
  ⟨by simp, fun k u hu => by rw [Lib.cell_of_heap (heap_alloc_new W _)]; rw [List.getElem?_toArray]; exact hu, fun o => Lib.frozen_of_heap (heap_alloc_new W _) o⟩
theorem XB.cell8 {W : World} {g : Nat} {r : RawE} (h : XB W g r) (q : Option Addr) (len c : Nat) : XB (W.setCell ⟨g, 8, none⟩ (.slice q len c)) g ⟨r.op, r.v, r.rel, r.col, r.n, r.s, q, len, c⟩ :=
  ⟨by rw [World.size_setCell]; exact h.lt, fun k u hu => by
    by_cases hk : k = 8
    · subst hk
      have e : u = .slice q len c := by simp [RawE.cells, exCells] at hu; exact hu.symm
      rw [e]
      have h8 := h.c 8 _ rfl
      simp [go_sem, h8]
    · have hne : (⟨g, k, none⟩ : Addr) ≠ ⟨g, 8, none⟩ := fun e => hk (by injection e)
      refine (World.cell?_setCell_other _ _ _ _ (fun e => hne (by rw [e]))).trans (h.c k u ?_)
      have hk9 : k < 9 := (List.getElem?_eq_some_iff.1 hu).1
      match k, hk, hk9 with
      | 0, _, _ => exact hu
      | 1, _, _ => exact hu
      | 2, _, _ => exact hu
      | 3, _, _ => exact hu
      | 4, _, _ => exact hu
      | 5, _, _ => exact hu
      | 6, _, _ => exact hu
      | 7, _, _ => exact hu
      | 8, h, _ => exact absurd rfl h
      | k + 9, _, h => exact absurd h (by omega), fun o => by rw [World.frozen?_setCell]; exact h.fz o⟩

theorem XB.set1 {W : World} {g k : Nat} {r r' : RawE} {u : Value} (h : XB W g r) (hk : k < 9) (hx : r'.cells = r.cells.set k u) : XB (W.setCell ⟨g, k, none⟩ u) g r' :=
  ⟨by rw [World.size_setCell]; exact h.lt, fun j y hy => by
    rw [hx] at hy
    by_cases hj : j = k
    · subst hj
      rw [List.getElem?_set_self (by exact hk)] at hy
      cases hy
      have h8 := h.c j _ (List.getElem?_eq_getElem (by exact hk))
      simp [go_sem, h8]
    · rw [List.getElem?_set_ne (fun e => hj e.symm)] at hy
      exact (World.cell?_setCell_other _ _ _ _ (fun e => hj (by have h5 := congrArg Addr.off e; simp at h5; omega))).trans (h.c j y hy), fun o => by rw [World.frozen?_setCell]; exact h.fz o⟩
theorem XB.setAll {W : World} {g : Nat} {r : RawE} (h : XB W g r) (r' : RawE) : XB (setE W g 0 r') g r' := by
  obtain ⟨op, ⟨vk, vn, vs⟩, rel, col, nn, s, q, len, cc⟩ := r'
  obtain ⟨op0, ⟨vk0, vn0, vs0⟩, rel0, col0, nn0, s0, q0, len0, cc0⟩ := r
  have h1 := XB.set1 (k := 0) (u := .int .i64 op) (r' := ⟨op, ⟨vk0, vn0, vs0⟩, rel0, col0, nn0, s0, q0, len0, cc0⟩) h (by decide) rfl
  have h2 := XB.set1 (k := 1) (u := .int .i64 vk) (r' := ⟨op, ⟨vk, vn0, vs0⟩, rel0, col0, nn0, s0, q0, len0, cc0⟩) h1 (by decide) rfl
  have h3 := XB.set1 (k := 2) (u := .int .i64 vn) (r' := ⟨op, ⟨vk, vn, vs0⟩, rel0, col0, nn0, s0, q0, len0, cc0⟩) h2 (by decide) rfl
  have h4 := XB.set1 (k := 3) (u := .string vs) (r' := ⟨op, ⟨vk, vn, vs⟩, rel0, col0, nn0, s0, q0, len0, cc0⟩) h3 (by decide) rfl
  have h5 := XB.set1 (k := 4) (u := .int .i64 rel) (r' := ⟨op, ⟨vk, vn, vs⟩, rel, col0, nn0, s0, q0, len0, cc0⟩) h4 (by decide) rfl
  have h6 := XB.set1 (k := 5) (u := .int .i64 col) (r' := ⟨op, ⟨vk, vn, vs⟩, rel, col, nn0, s0, q0, len0, cc0⟩) h5 (by decide) rfl
  have h7 := XB.set1 (k := 6) (u := .int .i64 nn) (r' := ⟨op, ⟨vk, vn, vs⟩, rel, col, nn, s0, q0, len0, cc0⟩) h6 (by decide) rfl
  have h8 := XB.set1 (k := 7) (u := .string s) (r' := ⟨op, ⟨vk, vn, vs⟩, rel, col, nn, s, q0, len0, cc0⟩) h7 (by decide) rfl
  exact XB.set1 (k := 8) (u := .slice q len cc) (r' := ⟨op, ⟨vk, vn, vs⟩, rel, col, nn, s, q, len, cc⟩) h8 (by decide) rfl

def CopyC (x : Ex) : Prop := ∀ (w : World) (cs : List Value), ExM w x cs → Calls Tryd.prog 28 #[.agg cs.toArray] w fun e w' => (∃ cs' : List Value, e = .returned (.agg cs'.toArray) ∧ ExMP w' (fun g => w.heap.size ≤ g) x cs') ∧ Below w.heap.size w w'

/-- What a call of copied holds, i operands being copied. -/
structure CI (w W : World) (g : Nat) (r : RawE) (gc cC i : Nat) (l : List Ex) : Prop where
  b : Below w.heap.size w W
  x1 : XB W g r
  x2 : XB W (g + 1) rawZ
  g2 : g + 2 ≤ gc
  gw : gc < W.heap.size
  k : ∃ K : List RawE, OwnE W (g + 2) (.slice (some ⟨gc, 0, none⟩) l.length cC) K ∧ K.length = l.length ∧ (∀ (j : Nat) (r : RawE) (x : Ex), j < i → K[j]? = some r → l[j]? = some x → ExMP W (fun k => g + 2 ≤ k ∧ k ≠ gc) x r.cells) ∧ ∀ (j : Nat) (r : RawE) (x : Ex), i ≤ j → K[j]? = some r → l[j]? = some x → ExMP W (fun k => k < g) x r.cells
theorem CI.on {w W W' : World} {g : Nat} {r : RawE} {gc cC i : Nat} {l : List Ex} (h : CI w W g r gc cC i l) (hb : Below W.heap.size W W') : CI w W' g r gc cC i l := by
  obtain ⟨b, x1, x2, g2, gw, K, h1, h2, h3, h4⟩ := h
  exact ⟨b.trans (hb.mono b.size), x1.on hb, x2.on hb, g2, Nat.lt_of_lt_of_le gw hb.size, K, h1.later hb, h2, fun j r x hj hr hx => (h3 j r x hj hr hx).below hb, fun j r x hj hr hx => (h4 j r x hj hr hx).below hb⟩
/-- .. one more, in the place of operand i. -/
theorem CI.step {w W : World} {g : Nat} {r : RawE} {gc cC i : Nat} {l : List Ex} (hg : g = w.heap.size) (h : CI w W g r gc cC i l) {x : Ex} (hx : l[i]? = some x) {r' : RawE} {N : Nat} (hN : gc < N) (hN2 : g + 2 ≤ N) (hr : ExMP W (fun k => N ≤ k) x r'.cells) : CI w (setE W gc (i * 9) r') g r gc cC (i + 1) l := by
  obtain ⟨b, x1, x2, g2, gw, K, h1, h2, h3, h4⟩ := h
  have o := setE_out W gc (i * 9) r'
  have hil := (List.getElem?_eq_some_iff.1 hx).1
  have hblk : ∀ k, k ≠ gc → k < W.heap.size → (setE W gc (i * 9) r').heap[k]? = W.heap[k]? := fun k hk hkw => o.block k hkw hk
  refine ⟨b.trans (o.below b.size (fun k hk => by rw [hk]; omega)), x1.out o (fun e => by omega), x2.out o (fun e => by omega), g2, Nat.lt_of_lt_of_le gw o.size, K.set i r', OwnE.setAll r' h1 (by omega), by rw [List.length_set]; exact h2, fun j r0 y hj hr0 hy => ?_, fun j r0 y hj hr0 hy => ?_⟩
  · by_cases hij : i = j
    · subst hij
      rw [List.getElem?_set_self (by omega)] at hr0
      cases hr0
      rw [hx] at hy
      cases hy
      exact ExMP.on o.size (fun k hk hkw => hblk k (by omega) hkw) (fun k hk _ => ⟨by omega, by omega⟩) _ _ hr
    · rw [List.getElem?_set_ne hij] at hr0
      exact ExMP.on o.size (fun k hk hkw => hblk k hk.2 hkw) (fun _ h _ => h) _ _ (h3 j r0 y (by omega) hr0 hy)
  · rw [List.getElem?_set_ne (by omega)] at hr0
    exact ExMP.on o.size (fun k hk hkw => hblk k (by omega) hkw) (fun _ h _ => h) _ _ (h4 j r0 y (by omega) hr0 hy)

/-- The cells of operand i, as something. -/
theorem CI.cells {w W : World} {g : Nat} {r : RawE} {gc cC i i' : Nat} {l : List Ex} (h : CI w W g r gc cC i' l) (hi : i < l.length) : (∃ u, W.cell? ⟨gc, i * 9, none⟩ = some u) ∧ (∃ u, W.cell? ⟨gc, i * 9 + 1, none⟩ = some u) ∧ (∃ u, W.cell? ⟨gc, i * 9 + 2, none⟩ = some u) ∧ (∃ u, W.cell? ⟨gc, i * 9 + 3, none⟩ = some u) ∧ (∃ u, W.cell? ⟨gc, i * 9 + 4, none⟩ = some u) ∧ (∃ u, W.cell? ⟨gc, i * 9 + 5, none⟩ = some u) ∧ (∃ u, W.cell? ⟨gc, i * 9 + 6, none⟩ = some u) ∧ (∃ u, W.cell? ⟨gc, i * 9 + 7, none⟩ = some u) ∧ (∃ u, W.cell? ⟨gc, i * 9 + 8, none⟩ = some u) ∧ ∀ o, W.frozen? ⟨gc, o, none⟩ = false := by
  obtain ⟨-, -, -, -, -, K, h1, h2, -, -⟩ := h
  have hr : K[i]? = some (K[i]'(by omega)) := List.getElem?_eq_getElem (by omega)
  have e := fun k u hu => OwnF.cellAt RawE.cells_len h1 hr (k := k) (u := u) hu
  exact ⟨⟨_, (e 0 _ rfl).1⟩, ⟨_, (e 1 _ rfl).1⟩, ⟨_, (e 2 _ rfl).1⟩, ⟨_, (e 3 _ rfl).1⟩, ⟨_, (e 4 _ rfl).1⟩, ⟨_, (e 5 _ rfl).1⟩, ⟨_, (e 6 _ rfl).1⟩, ⟨_, (e 7 _ rfl).1⟩, ⟨_, (e 8 _ rfl).1⟩, (e 0 _ rfl).2⟩

set_option maxHeartbeats 16000000 in
theorem copyC_mk (op : Int) (v : Val) (rel col n : Int) (s : ByteArray) (l : List Ex) (h2 : l.length ≤ 2) (IH : ∀ y ∈ l, CopyC y) : CopyC (.mk op v rel col n s l) := by
  intro w cs hx
  rw [ExM.iff] at hx
  obtain ⟨hv, q, c, rfl, hlc, hl⟩ := hx
  have HV := Lib.hid hv
  obtain ⟨K, hKl, hKA, hKE⟩ := exl_raw (ExL.toP _ _ _ hl)
  have HKA := Lib.hid hKA
  have HKE := Lib.hid hKE
  obtain ⟨len, hlen⟩ : ∃ len, len = l.length := ⟨_, rfl⟩
  rw [← hlen] at h2 hKl ⊢
  have HLEN := Lib.hid hlen
  have HI := Lib.hid IH
  have HKL := Lib.hid hKl
  clear hv hl hKA hKE hlen IH hlc
  obtain ⟨W1, hW1⟩ : ∃ W, W = w.alloc (.cells (exCells op v rel col n s q len c).toArray 26) := ⟨_, rfl⟩
  have E0 : XB W1 w.heap.size ⟨op, v, rel, col, n, s, q, len, c⟩ := by rw [hW1]; exact XB.new w ⟨op, v, rel, col, n, s, q, len, c⟩ _
  have z1 : W1.heap.size = w.heap.size + 1 := by rw [hW1]; simp
  obtain ⟨W, hW⟩ : ∃ W, W = W1.alloc (.cells rawZ.cells.toArray 26) := ⟨_, rfl⟩
  have b1 : Below W1.heap.size W1 W := by rw [hW]; (repeat (first | exact ext_refl _ | assumption | (refine ext_alloc ?_ _) | (refine ext_drewN ?_ _) | refine ext_drew ?_ | (refine ext_set (by first | (simp; done) | (simp; omega)) _ ?_) | (refine ext_trans ?_ (by assumption))))
  have E1 := E0.on b1
  have E2 : XB W (w.heap.size + 1) rawZ := by rw [hW, ← z1]; exact XB.new W1 rawZ _
  have b : Below w.heap.size w W := by rw [hW, hW1]; (repeat (first | exact ext_refl _ | assumption | (refine ext_alloc ?_ _) | (refine ext_drewN ?_ _) | refine ext_drew ?_ | (refine ext_set (by first | (simp; done) | (simp; omega)) _ ?_) | (refine ext_trans ?_ (by assumption))))
  have z2 : W.heap.size = w.heap.size + 2 := by rw [hW]; simp [z1]
  have HWW := Lib.hid (show W = (w.alloc (.cells (exCells op v rel col n s q len c).toArray 26)).alloc (.cells rawZ.cells.toArray 26) by rw [hW, hW1])
  clear hW hW1 E0 z1 b1
  go_enter Tryd.func28, Tryd.ntmps28
  go_upto_region 1 with fail
  change Code.wp _ _ _ _ ((w.alloc (.cells (exCells op v rel col n s q len c).toArray 26)).alloc (.cells rawZ.cells.toArray 26))
  rw [← HWW.out]
  clear HWW
  obtain ⟨g, hg⟩ : ∃ g, g = w.heap.size := ⟨_, rfl⟩
  have HGW := Lib.hid hg
  rw [← hg] at E1 E2 z2 ⊢
  have HB := Lib.hid b
  have HE1 := Lib.hid E1
  have HE2 := Lib.hid E2
  have HZ2 := Lib.hid z2
  clear hg b z2 E2
  have lt := E1.lt
  have c8 := E1.c 8 _ rfl
  clear E1
  have hcl := cloneE_any K q c W (by rw [HKL.out]; omega) (fun i hi => by
    obtain ⟨g', off, e, h1, h3, h4⟩ := HKA.out i hi
    exact ⟨g', off, e, h1, Nat.lt_of_lt_of_le h3 HB.out.size, fun j r hr k u hu => (HB.out.cell (p := ⟨g', _, none⟩) h3).trans (h4 j r hr k u hu)⟩)
  rw [HKL.out] at hcl
  have HCL := Lib.hid hcl
  clear hcl hKl
  go_wp2_with fail
  refine HCL.out.mono ?_
  rintro e X ⟨⟨vc, rfl, hO⟩, hbX⟩
  obtain ⟨qc, cC, rfl, -, hcm, -, -⟩ := OwnF.arr RawE.cells_len hO
  rw [HKL.out] at hO ⊢
  have X1 := HE1.out.on hbX
  have X2 := HE2.out.on hbX
  have lt := X1.lt
  have c8 := X1.c 8 _ rfl
  have f8 := X1.fz
  have HXB := Lib.hid (HB.out.trans (hbX.mono HB.out.size))
  have HX1 := Lib.hid X1
  have HX2 := Lib.hid X2
  have HO := Lib.hid hO
  have HKEX := Lib.hid (show ∀ (j : Nat) (r : RawE) (x : Ex), K[j]? = some r → l[j]? = some x → ExMP X (fun k => k < g) x r.cells from fun j r x hr hx => ExMP.on (Nat.le_trans HB.out.size hbX.size) (fun k hk _ => ((HB.out.trans (hbX.mono HB.out.size)).block k (by have := HGW.out; omega))) (fun k hk _ => by have := HGW.out; omega) _ _ (HKE.out j r x hr hx))
  clear X1 X2 hO hbX HCL HKE HKA
  simp only at c8
  go_upto_region 2 with fail
  obtain ⟨Y, hY⟩ : ∃ Y, Y = X.setCell ⟨g, 8, none⟩ (.slice qc len cC) := ⟨_, rfl⟩
  rw [← hY]
  have Y1 := HX1.out.cell8 qc len cC
  rw [← hY] at Y1
  have oY : Out (fun k => k = g) X Y := by rw [hY]; exact Out.set ⟨g, 8, none⟩ _ rfl
  have Y2 := HX2.out.out oY (by omega)
  have bY : Below w.heap.size w Y := HXB.out.trans (oY.below HXB.out.size (fun k hk => by rw [hk, HGW.out]; exact Nat.le_refl _))
  have HY1 := Lib.hid Y1
  have HY2 := Lib.hid Y2
  have HBY := Lib.hid bY
  have HOY := Lib.hid (show OwnE Y (g + 2) (.slice qc len cC) K from (OwnF.base_le HO.out (by rw [HZ2.out]; exact Nat.le_refl _)).kept oY (fun k hk => by
    rw [hk]
    intro e
    have h5 := (HO.out.lt g e).1
    have h6 := HZ2.out
    omega))
  have HKY := Lib.hid (show ∀ (j : Nat) (r : RawE) (x : Ex), K[j]? = some r → l[j]? = some x → ExMP Y (fun k => k < g) x r.cells from fun j r x hr hx => ExMP.on oY.size (fun k hk hkw => oY.block k hkw (by omega)) (fun _ h _ => h) _ _ (HKEX.out j r x hr hx))
  clear hY Y2 oY bY lt c8 f8 HX1 HX2 HO HKEX HXB HE1 HE2
  have ret : ∀ (Z : World) (cL : RawE), Below w.heap.size w Z → XB Z g cL → XB Z (g + 1) rawZ → Below w.heap.size w (setE Z (g + 1) 0 cL) ∧ XB (setE Z (g + 1) 0 cL) (g + 1) cL := fun Z cL hb _ h2 => ⟨hb.trans ((setE_out Z (g + 1) 0 cL).below hb.size (fun k hk => by rw [hk, HGW.out]; omega)), h2.setAll cL⟩
  have HRET := Lib.hid ret
  clear ret
  by_cases h0 : len = 0
  · subst h0
    have hl0 : l = [] := List.length_eq_zero_iff.1 HLEN.out.symm
    have HL0 := Lib.hid hl0
    clear hl0
    obtain ⟨lt, c, fz⟩ := Y1
    have c8 := c 8 _ rfl
    simp only at c8
    have c0 := c 0 _ rfl
    have c1 := c 1 _ rfl
    have c2 := c 2 _ rfl
    have c3 := c 3 _ rfl
    have c4 := c 4 _ rfl
    have c5 := c 5 _ rfl
    have c6 := c 6 _ rfl
    have c7 := c 7 _ rfl
    clear c
    obtain ⟨ltR, cR, fR⟩ := HY2.out
    have d0 := cR 0 _ rfl
    have d1 := cR 1 _ rfl
    have d2 := cR 2 _ rfl
    have d3 := cR 3 _ rfl
    have d4 := cR 4 _ rfl
    have d5 := cR 5 _ rfl
    have d6 := cR 6 _ rfl
    have d7 := cR 7 _ rfl
    have d8 := cR 8 _ rfl
    clear cR
    go_wp2_with fail
    refine wp_loop_rounds 1 ?_
    rw [rounds_succ]
    go_wp2_with fail
    have hQ := HRET.out Y ⟨op, v, rel, col, n, s, qc, 0, cC⟩ HBY.out HY1.out HY2.out
    change bodyPost _ _ _ _ _ (setE Y (g + 1) 0 ⟨op, v, rel, col, n, s, qc, 0, cC⟩)
    have oQ := setE_out Y (g + 1) 0 ⟨op, v, rel, col, n, s, qc, 0, cC⟩
    obtain ⟨Q, hQQ⟩ : ∃ Q, Q = setE Y (g + 1) 0 ⟨op, v, rel, col, n, s, qc, 0, cC⟩ := ⟨_, rfl⟩
    rw [← hQQ] at hQ oQ
    rw [← hQQ]
    obtain ⟨hbQ, ltQ, cQ, fQ⟩ := hQ
    have q0 := cQ 0 _ rfl
    have q1 := cQ 1 _ rfl
    have q2 := cQ 2 _ rfl
    have q3 := cQ 3 _ rfl
    have q4 := cQ 4 _ rfl
    have q5 := cQ 5 _ rfl
    have q6 := cQ 6 _ rfl
    have q7 := cQ 7 _ rfl
    have q8 := cQ 8 _ rfl
    clear hQQ cQ
    simp only at q0 q1 q2 q3 q4 q5 q6 q7 q8
    refine bodyPost_ret (v := .agg (exCells op v rel col n s qc 0 cC).toArray) (by simp [results, Tryd.results28, go_sem, q0, q1, q2, q3, q4, q5, q6, q7, q8]) rfl ⟨⟨_, rfl, ?_⟩, hbQ⟩
    rw [HL0.out]
    exact ExMP.iff.2 ⟨HV.out, qc, cC, rfl, Nat.zero_le _, by rw [ExLP]; trivial⟩
  · obtain ⟨gc, rfl, -, hgc, hgcw⟩ := OwnF.at_ HOY.out (by rw [HKL.out]; omega)
    have hCI : CI w Y g ⟨op, v, rel, col, n, s, some ⟨gc, 0, none⟩, len, cC⟩ gc cC 0 l := ⟨HBY.out, HY1.out, HY2.out, by have := (HOY.out.lt gc rfl).1; omega, hgcw, K, by rw [← HLEN.out]; exact HOY.out, by rw [HKL.out]; exact HLEN.out, fun j r x hj => by omega, fun j r x _ hr hx => HKY.out j r x hr hx⟩
    have HCI := Lib.hid hCI
    clear hCI hgc hgcw HOY HKY HKL
    obtain ⟨lt, c, fz⟩ := Y1
    have c8 := c 8 _ rfl
    simp only at c8
    clear c
    go_wp2_with fail
    go_loopw [12] (fun vi wr => ∃ i : Nat, vi = .int .i64 i ∧ i ≤ len ∧ Hid (CI w wr g ⟨op, v, rel, col, n, s, some ⟨gc, 0, none⟩, len, cC⟩ gc cC i l)) (fun vi _ => len - (intOf vi).toNat)
    case atStart => exact ⟨0, rfl, by omega, HCI.out⟩
    case round =>
      clear HCI lt c8 fz HY1 HY2 HBY
      obtain ⟨i, rfl, hi, hC⟩ := hrel
      obtain ⟨V, hV⟩ : ∃ V, V = wr := ⟨_, rfl⟩
      rw [← hV] at hC
      rw [← hV]
      have HC := Lib.hid hC.out
      clear hV hC
      obtain ⟨lt, c, fz⟩ := HC.out.x1
      have c8 := c 8 _ rfl
      simp only at c8
      by_cases hlt : i < len
      · clear c
        obtain ⟨y, hy⟩ : ∃ y, l[i]? = some y := ⟨_, List.getElem?_eq_getElem (by rw [← HLEN.out]; exact hlt)⟩
        obtain ⟨-, -, -, -, hgw, KK, hK1, hK2, -, hK4⟩ := HC.out
        obtain ⟨r, hr⟩ : ∃ r, KK[i]? = some r := ⟨_, List.getElem?_eq_getElem (by rw [hK2, ← HLEN.out]; exact hlt)⟩
        have HYM := Lib.hid (hK4 i r y (Nat.le_refl _) hr hy)
        have HYI := Lib.hid (HI.out y (List.mem_of_getElem? hy))
        have HYL := Lib.hid hy
        obtain ⟨rop, ⟨rvk, rvn, rvs⟩, rrel, rcol, rn, rs, rq, rlen, rc⟩ := r
        obtain ⟨e0, ef⟩ := OwnF.cellAt RawE.cells_len hK1 hr (k := 0) rfl
        obtain ⟨e1, -⟩ := OwnF.cellAt RawE.cells_len hK1 hr (k := 1) rfl
        obtain ⟨e2, -⟩ := OwnF.cellAt RawE.cells_len hK1 hr (k := 2) rfl
        obtain ⟨e3, -⟩ := OwnF.cellAt RawE.cells_len hK1 hr (k := 3) rfl
        obtain ⟨e4, -⟩ := OwnF.cellAt RawE.cells_len hK1 hr (k := 4) rfl
        obtain ⟨e5, -⟩ := OwnF.cellAt RawE.cells_len hK1 hr (k := 5) rfl
        obtain ⟨e6, -⟩ := OwnF.cellAt RawE.cells_len hK1 hr (k := 6) rfl
        obtain ⟨e7, -⟩ := OwnF.cellAt RawE.cells_len hK1 hr (k := 7) rfl
        obtain ⟨e8, -⟩ := OwnF.cellAt RawE.cells_len hK1 hr (k := 8) rfl
        simp only [Nat.add_zero] at e0 e1 e2 e3 e4 e5 e6 e7 e8
        clear hK1 hK2 hK4 hr hy ef
        go_upto_region 5 with fail
        have XN := XB.new V ⟨rop, ⟨rvk, rvn, rvs⟩, rrel, rcol, rn, rs, rq, rlen, rc⟩ 26
        obtain ⟨U, hU⟩ : ∃ U, U = V.alloc (.cells #[.int .i64 rop, .int .i64 rvk, .int .i64 rvn, .string rvs, .int .i64 rrel, .int .i64 rcol, .int .i64 rn, .string rs, .slice rq rlen rc] 26) := ⟨_, rfl⟩
        have bU : Below V.heap.size V U := by rw [hU]; exact ext_alloc (ext_refl _) _
        have XN : XB U V.heap.size ⟨rop, ⟨rvk, rvn, rvs⟩, rrel, rcol, rn, rs, rq, rlen, rc⟩ := by rw [hU]; exact XN
        rw [← hU]
        have HCU := Lib.hid (HC.out.on bU)
        have HYU := Lib.hid (HYM.out.below bU)
        obtain ⟨h, hh⟩ : ∃ h, h = V.heap.size := ⟨_, rfl⟩
        rw [← hh] at XN ⊢
        have HGH := Lib.hid (show ¬ h = gc from fun e => by have h1 := HC.out.gw; omega)
        clear hU bU hh e0 e1 e2 e3 e4 e5 e6 e7 e8 lt c8 fz HC HYM
        obtain ⟨lt, c, fz⟩ := HCU.out.x1
        have c8 := c 8 _ rfl
        simp only at c8
        obtain ⟨ltN, cN, fN⟩ := XN
        have a0 := cN 0 _ rfl
        have a1 := cN 1 _ rfl
        have a2 := cN 2 _ rfl
        have a3 := cN 3 _ rfl
        have a4 := cN 4 _ rfl
        have a5 := cN 5 _ rfl
        have a6 := cN 6 _ rfl
        have a7 := cN 7 _ rfl
        have a8 := cN 8 _ rfl
        simp only at a0 a1 a2 a3 a4 a5 a6 a7 a8
        clear c cN
        have hd0 : Below U.heap.size U U.drew := (Below.refl _ _).drew
        have HCD := Lib.hid (HCU.out.on hd0)
        have HYD := Lib.hid (HYU.out.below hd0)
        have hS : ∀ W', Below U.heap.size U W' → (fun W' => W'.cell? ⟨g, 8, none⟩ = some (.slice (some ⟨gc, 0, none⟩) len cC) ∧ W'.cell? ⟨h, 0, none⟩ = some (.int .i64 rop) ∧ W'.cell? ⟨h, 1, none⟩ = some (.int .i64 rvk) ∧ W'.cell? ⟨h, 2, none⟩ = some (.int .i64 rvn) ∧ W'.cell? ⟨h, 3, none⟩ = some (.string rvs) ∧ W'.cell? ⟨h, 4, none⟩ = some (.int .i64 rrel) ∧ W'.cell? ⟨h, 5, none⟩ = some (.int .i64 rcol) ∧ W'.cell? ⟨h, 6, none⟩ = some (.int .i64 rn) ∧ W'.cell? ⟨h, 7, none⟩ = some (.string rs) ∧ W'.cell? ⟨h, 8, none⟩ = some (.slice rq rlen rc)) W' := fun W' hb => ⟨(hb.cell (p := ⟨_, _, none⟩) lt).trans c8, (hb.cell (p := ⟨_, _, none⟩) ltN).trans a0, (hb.cell (p := ⟨_, _, none⟩) ltN).trans a1, (hb.cell (p := ⟨_, _, none⟩) ltN).trans a2, (hb.cell (p := ⟨_, _, none⟩) ltN).trans a3, (hb.cell (p := ⟨_, _, none⟩) ltN).trans a4, (hb.cell (p := ⟨_, _, none⟩) ltN).trans a5, (hb.cell (p := ⟨_, _, none⟩) ltN).trans a6, (hb.cell (p := ⟨_, _, none⟩) ltN).trans a7, (hb.cell (p := ⟨_, _, none⟩) ltN).trans a8⟩
        have hSE : ∀ Z : World, (fun W' => W'.cell? ⟨g, 8, none⟩ = some (.slice (some ⟨gc, 0, none⟩) len cC) ∧ W'.cell? ⟨h, 0, none⟩ = some (.int .i64 rop) ∧ W'.cell? ⟨h, 1, none⟩ = some (.int .i64 rvk) ∧ W'.cell? ⟨h, 2, none⟩ = some (.int .i64 rvn) ∧ W'.cell? ⟨h, 3, none⟩ = some (.string rvs) ∧ W'.cell? ⟨h, 4, none⟩ = some (.int .i64 rrel) ∧ W'.cell? ⟨h, 5, none⟩ = some (.int .i64 rcol) ∧ W'.cell? ⟨h, 6, none⟩ = some (.int .i64 rn) ∧ W'.cell? ⟨h, 7, none⟩ = some (.string rs) ∧ W'.cell? ⟨h, 8, none⟩ = some (.slice rq rlen rc)) Z → ∀ {W' : World}, Out (fun k => k = gc) Z W' → (fun W' => W'.cell? ⟨g, 8, none⟩ = some (.slice (some ⟨gc, 0, none⟩) len cC) ∧ W'.cell? ⟨h, 0, none⟩ = some (.int .i64 rop) ∧ W'.cell? ⟨h, 1, none⟩ = some (.int .i64 rvk) ∧ W'.cell? ⟨h, 2, none⟩ = some (.int .i64 rvn) ∧ W'.cell? ⟨h, 3, none⟩ = some (.string rvs) ∧ W'.cell? ⟨h, 4, none⟩ = some (.int .i64 rrel) ∧ W'.cell? ⟨h, 5, none⟩ = some (.int .i64 rcol) ∧ W'.cell? ⟨h, 6, none⟩ = some (.int .i64 rn) ∧ W'.cell? ⟨h, 7, none⟩ = some (.string rs) ∧ W'.cell? ⟨h, 8, none⟩ = some (.slice rq rlen rc)) W' := fun Z hz W' o => by
          have eg : ∀ k u, Z.cell? ⟨g, k, none⟩ = some u → W'.cell? ⟨g, k, none⟩ = some u := fun k u hu => (World.cell?_of_block (w := Z) (o.block g (World.block_lt_of_cell? Z ⟨g, k, none⟩ (by rw [hu])) (by have := HCU.out.g2; omega))).trans hu
          have eh : ∀ k u, Z.cell? ⟨h, k, none⟩ = some u → W'.cell? ⟨h, k, none⟩ = some u := fun k u hu => (World.cell?_of_block (w := Z) (o.block h (World.block_lt_of_cell? Z ⟨h, k, none⟩ (by rw [hu])) HGH.out)).trans hu
          obtain ⟨z0, z1, z2, z3, z4, z5, z6, z7, z8, z9⟩ := hz
          exact ⟨eg _ _ z0, eh _ _ z1, eh _ _ z2, eh _ _ z3, eh _ _ z4, eh _ _ z5, eh _ _ z6, eh _ _ z7, eh _ _ z8, eh _ _ z9⟩
        have HSE := Lib.hid hSE
        clear hSE
        have HS := Lib.hid hS
        have HD0 := Lib.hid hd0
        have SA := Lib.hid (hS _ hd0)
        clear hd0 hS fN fz HCU HYU
        have hNN : gc < U.drew.heap.size ∧ g + 2 ≤ U.drew.heap.size := by have h1 := HCD.out.gw; have h2 := HCD.out.g2; omega
        have HNN := Lib.hid hNN
        clear hNN
        go_region_held3 (fun W' => W'.cell? ⟨g, 8, none⟩ = some (.slice (some ⟨gc, 0, none⟩) len cC) ∧ W'.cell? ⟨h, 0, none⟩ = some (.int .i64 rop) ∧ W'.cell? ⟨h, 1, none⟩ = some (.int .i64 rvk) ∧ W'.cell? ⟨h, 2, none⟩ = some (.int .i64 rvn) ∧ W'.cell? ⟨h, 3, none⟩ = some (.string rvs) ∧ W'.cell? ⟨h, 4, none⟩ = some (.int .i64 rrel) ∧ W'.cell? ⟨h, 5, none⟩ = some (.int .i64 rcol) ∧ W'.cell? ⟨h, 6, none⟩ = some (.int .i64 rn) ∧ W'.cell? ⟨h, 7, none⟩ = some (.string rs) ∧ W'.cell? ⟨h, 8, none⟩ = some (.slice rq rlen rc)) (first | with_reducible exact SA.out | with_reducible exact SB.out | with_reducible exact SE.out)
          ((go_at_call 28; go_must (refine (HYI.out U.drew _ (ExMP.toM _ _ HYD.out)).mono ?_; rintro e Z ⟨⟨cs', rfl, hP⟩, hbZ⟩; have SB := Lib.hid (HS.out _ (HD0.out.trans (hbZ.mono HD0.out.size))); obtain ⟨r', rfl⟩ := hP.raw; have HSt := Lib.hid (CI.step HGW.out (HCD.out.on hbZ) HYL.out HNN.out.1 HNN.out.2 hP); obtain ⟨⟨_, e0⟩, ⟨_, e1⟩, ⟨_, e2⟩, ⟨_, e3⟩, ⟨_, e4⟩, ⟨_, e5⟩, ⟨_, e6⟩, ⟨_, e7⟩, ⟨_, e8⟩, ef⟩ := CI.cells (HCD.out.on hbZ) (by rw [← HLEN.out]; exact hlt); clear hP hbZ; obtain ⟨rop', ⟨rvk', rvn', rvs'⟩, rrel', rcol', rn', rs', rq', rlen', rc'⟩ := r'; have SE := Lib.hid (HSE.out Z SB.out (setE_out Z gc (i * 9) ⟨rop', ⟨rvk', rvn', rvs'⟩, rrel', rcol', rn', rs', rq', rlen', rc'⟩)))))
        go_wp2_with fail
        go_roundw
        case rel => exact ⟨i + 1, by go_num, hlt, HSt.out⟩
        case measure => simp [intOf] <;> omega
      · obtain rfl : i = len := by omega
        have c0 := c 0 _ rfl
        have c1 := c 1 _ rfl
        have c2 := c 2 _ rfl
        have c3 := c 3 _ rfl
        have c4 := c 4 _ rfl
        have c5 := c 5 _ rfl
        have c6 := c 6 _ rfl
        have c7 := c 7 _ rfl
        clear c
        obtain ⟨ltR, cR, fR⟩ := HC.out.x2
        have d0 := cR 0 _ rfl
        have d1 := cR 1 _ rfl
        have d2 := cR 2 _ rfl
        have d3 := cR 3 _ rfl
        have d4 := cR 4 _ rfl
        have d5 := cR 5 _ rfl
        have d6 := cR 6 _ rfl
        have d7 := cR 7 _ rfl
        have d8 := cR 8 _ rfl
        clear cR
        go_wp2_with fail
        have hQ := HRET.out V ⟨op, v, rel, col, n, s, (some ⟨gc, 0, none⟩), i, cC⟩ HC.out.b HC.out.x1 HC.out.x2
        change bodyPost _ _ _ _ _ (setE V (g + 1) 0 ⟨op, v, rel, col, n, s, (some ⟨gc, 0, none⟩), i, cC⟩)
        have oQ := setE_out V (g + 1) 0 ⟨op, v, rel, col, n, s, (some ⟨gc, 0, none⟩), i, cC⟩
        obtain ⟨Q, hQQ⟩ : ∃ Q, Q = setE V (g + 1) 0 ⟨op, v, rel, col, n, s, (some ⟨gc, 0, none⟩), i, cC⟩ := ⟨_, rfl⟩
        rw [← hQQ] at hQ oQ
        rw [← hQQ]
        obtain ⟨hbQ, ltQ, cQ, fQ⟩ := hQ
        have q0 := cQ 0 _ rfl
        have q1 := cQ 1 _ rfl
        have q2 := cQ 2 _ rfl
        have q3 := cQ 3 _ rfl
        have q4 := cQ 4 _ rfl
        have q5 := cQ 5 _ rfl
        have q6 := cQ 6 _ rfl
        have q7 := cQ 7 _ rfl
        have q8 := cQ 8 _ rfl
        clear hQQ cQ
        simp only at q0 q1 q2 q3 q4 q5 q6 q7 q8
        refine bodyPost_ret (v := .agg (exCells op v rel col n s (some ⟨gc, 0, none⟩) i cC).toArray) (by simp [results, Tryd.results28, go_sem, q0, q1, q2, q3, q4, q5, q6, q7, q8]) rfl ⟨⟨_, rfl, ?_⟩, hbQ⟩
        obtain ⟨-, -, -, hg2, hgw, KK, hK1, hK2, hK3, -⟩ := HC.out
        have hlc : l.length ≤ cC := by
          obtain ⟨q', c', e, h1, -⟩ := OwnF.arr RawE.cells_len hK1
          injection e with _ _ e3
          omega
        rw [HLEN.out]
        refine ExMP.iff.2 ⟨HV.out, _, cC, rfl, hlc, ExLP.of fun j x hx => ?_⟩
        have hj := (List.getElem?_eq_some_iff.1 hx).1
        have hjr : KK[j]? = some (KK[j]'(by omega)) := List.getElem?_eq_getElem (by omega)
        have hE := hK3 j _ x (by rw [HLEN.out]; exact hj) hjr hx
        refine ⟨gc, 0, _, rfl, Nat.lt_of_lt_of_le hgw oQ.size, by have := HGW.out; omega, ExMP.on oQ.size (fun k hk hkw => oQ.block k hkw (by omega)) (fun k hk _ => by have := HGW.out; omega) _ _ hE, fun k u hu => ?_⟩
        have h5 := (OwnF.cellAt RawE.cells_len hK1 hjr hu).1
        rw [Nat.zero_add, Nat.zero_add]
        exact (World.cell?_of_block (w := V) (oQ.block gc hgw (by omega))).trans h5

theorem copyC_any : ∀ (k : Nat) (x : Ex), x.deep ≤ k → x.okAll = true → CopyC x
  | 0, x, h, _ => absurd (deep_pos x) (by omega)
  | k + 1, .mk op v rel col n s l, h, ho => by
    rw [Ex.okAll, Bool.and_eq_true] at ho
    exact copyC_mk op v rel col n s l (head_two ho.1) fun y hy => copyC_any k y (by rw [Ex.deep] at h; have := deepL_of_mem hy; omega) (by obtain ⟨i, hi, he⟩ := List.getElem_of_mem hy; exact okL_all ho.2 (i := i) (by rw [List.getElem?_eq_getElem hi, he]))

end Go.Proofs.YtiidfghdmaipoaaDoor
