/- A part of the proof. -/
import Derived.Test.YtklgoajgchfmeaaDoorSnX
set_option linter.unusedVariables false
set_option linter.unusedSimpArgs false
namespace Go.Proofs.YtklgoajgchfmeaaDoor
open Go.RowKit Go.Maps Go.ChangeShapes Go.Deep Go.Shelf
set_option maxRecDepth 100000
structure KX (W : World) (g : Nat) (cs : List Value) : Prop where
  lt : g < W.heap.size
  c : ∀ k u, cs[k]? = some u → W.cell? ⟨g, k, none⟩ = some u
  fz : ∀ o, W.frozen? ⟨g, o, none⟩ = false
theorem KX.out {S : Nat → Prop} {W W' : World} {g : Nat} {cs : List Value} (h : KX W g cs) (o : Out S W W') (hS : ¬ S g) : KX W' g cs :=
  ⟨Nat.lt_of_lt_of_le h.lt o.size, fun k u hu => (World.cell?_of_block (w := W) (o.block g h.lt hS)).trans (h.c k u hu), fun k => by
    have h1 := h.fz k
    have h2 := o.block g h.lt hS
    unfold World.frozen? at h1 ⊢
    rw [h2]
    exact h1⟩
theorem KX.on {W W' : World} {g : Nat} {cs : List Value} (h : KX W g cs) (hb : Below W.heap.size W W') : KX W' g cs := h.out (Out.of (S := fun _ => False) hb) (fun h => h)
theorem KX.new (W : World) (cs : List Value) (T : TypeId) : KX (W.alloc (.cells cs.toArray T)) W.heap.size cs :=
  ⟨by simp, fun k u hu => by rw [Lib.cell_of_heap (heap_alloc_new W _)]; rw [List.getElem?_toArray]; exact hu, fun o => Lib.frozen_of_heap (heap_alloc_new W _) o⟩
theorem KX.set {W : World} {g k : Nat} {cs : List Value} {u : Value} (h : KX W g cs) (hk : k < cs.length) : KX (W.setCell ⟨g, k, none⟩ u) g (cs.set k u) :=
  ⟨by rw [World.size_setCell]; exact h.lt, fun j y hy => by
    by_cases hj : j = k
    · subst hj
      rw [List.getElem?_set_self hk] at hy
      cases hy
      have h8 := h.c j _ (List.getElem?_eq_getElem hk)
      simp [go_sem, h8]
    · rw [List.getElem?_set_ne (fun e => hj e.symm)] at hy
      exact (World.cell?_setCell_other _ _ _ _ (fun e => hj (by have h5 := congrArg Addr.off e; simp at h5; omega))).trans (h.c j y hy), fun o => by rw [World.frozen?_setCell]; exact h.fz o⟩
theorem ExL.take {w : World} {q : Option Addr} {L : List Ex} (h : ExL w q 0 L) (m : Nat) : ExL w q 0 (L.take m) := ExLP.toL _ _ _ (ExLP.of (P := fun _ => True) fun j x hx => by
  have hx' : L[j]? = some x := by
    rw [List.getElem?_take] at hx
    split at hx
    · exact hx
    · cases hx
  obtain ⟨g, off, cs, h1, h2, h3, h4⟩ := ExL.at_ h hx'
  exact ⟨g, off, cs, h1, h2, trivial, ExMP.on (Nat.le_refl _) (fun _ _ _ => rfl) (fun _ _ _ => trivial) _ _ (ExM.toP _ _ h3), h4⟩)
theorem wp_append_z {w : World} {ops : Array Oper} {rest : List Oper} {o : Oper} {a : Act} {Q : Exit → Act → World → Prop} (hgd : o.guard = none) (s x : Operand)
    (ho : o.op = .call { callee := .builtin .append, args := #[s, x], argTypes := #[24, 24] }) (b : Nat) (P : Nat → Prop) (v : Value) (L : List Ex) (hs : a.eval s = v) (hL : OwnX w b P v L) (nn : Nat) (hnn : nn = L.length)
    (r : RawE) (y : Ex) (p : Option Addr) (cp lo hi : Nat) (hx : a.eval x = .slice p 1 cp) (hR : ArrA lo hi p 9 [r] (fun g o r => ∀ (k : Nat) u, r.cells[k]? = some u → w.cell? ⟨g, o + k, none⟩ = some u))
    (hy : ExMP w (fun k => P k ∧ v.ownBlock ≠ some k) y r.cells) (hn : (nn + 1) * 104 ≤ 140737488355328) (hb : b ≤ w.heap.size)
    (h : ∀ q c w', OwnX w' b P (.slice q (nn + 1) c) (L ++ [y]) → Below b w w' → Out (fun k => v.ownBlock = some k) w w' → ((Value.slice q (nn + 1) c).ownBlock = v.ownBlock ∨ (Value.slice q (nn + 1) c).ownBlock = some w.heap.size) → wpList Tryd.prog ops Q rest (a.put o.dst (.slice q (nn + 1) c)) w') : wpList Tryd.prog ops Q (o :: rest) a w := by
  subst hnn
  obtain ⟨K, h1, h2, h3⟩ := hL
  obtain ⟨v', w', hr, h4, h5, h6, h7⟩ := run_append_flat w 24 26 o.type Tryd.underlying24 _ 104 Tryd.infoExpr8 rfl (by decide) RawE.cells_len RawE.cells_one b v K h1 p 1 cp [r] rfl lo hi hR (by rw [h2]; simp only [List.length_cons, List.length_nil]; unfold maxLen; omega) (by rw [h2]; simpa using hn) hb
  obtain ⟨q, c, e, -⟩ := OwnF.arr RawE.cells_len h4
  have el : (K ++ [r]).length = L.length + 1 := by simp [h2]
  rw [el] at e
  subst e
  refine wpList_plain hgd fun KK hK => ?_
  unfold Oper.wp execOp
  simp only [ho, resolve, invoke, builtin, Sem.run_bind, Sem.run_pure, Result.andThen_ok, List.map_toArray, List.map_cons, List.map_nil, hs, hx, hr]
  refine hK _ _ (h q c w' ⟨K ++ [r], h4, by simp [h2], fun j r0 z hr0 hz => ?_⟩ h5 h6 h7)
  have hP : ∀ (y : Ex) (cs : List Value), ExMP w (fun k => P k ∧ v.ownBlock ≠ some k) y cs → ExMP w' (fun k => P k ∧ (Value.slice q (L.length + 1) c).ownBlock ≠ some k) y cs := fun y cs hy => ExMP.on h6.size (fun k hk hkw => h6.block k hkw hk.2) (fun k hk hkw => ⟨hk.1, fun e => by
    rcases h7 with h7 | h7
    · rw [h7] at e; exact hk.2 e
    · rw [h7] at e; cases e; exact Nat.lt_irrefl _ hkw⟩) y cs hy
  by_cases hj : j < K.length
  · rw [List.getElem?_append_left hj] at hr0
    rw [List.getElem?_append_left (by omega)] at hz
    exact hP _ _ (h3 j r0 z hr0 hz)
  · have hjk : j = K.length := by
      have := (List.getElem?_eq_some_iff.1 hr0).1
      simp at this
      omega
    rw [hjk, List.getElem?_append_right (Nat.le_refl _), Nat.sub_self] at hr0
    rw [hjk, h2, List.getElem?_append_right (Nat.le_refl _), Nat.sub_self] at hz
    simp at hr0 hz
    subst hr0 hz
    exact hP _ _ hy
structure WI (w wr : World) (g gc : Nat) (cb : List Value) (CV : Value → List Value) (L : List Ex) (j : Nat) : Prop where
  ex : ∃ v M, KX wr gc (CV v) ∧ OwnX wr (gc + 1) (fun k => k ≠ gc) v M ∧ M.length ≤ 2 * (L.length - j) ∧ (∀ k x, j ≤ k → L[k]? = some x → ∃ y ∈ M, Alike x y) ∧ ∀ y ∈ M, ∃ x ∈ L, Alike x y
  kb : KX wr g cb
  b : Below w.heap.size w wr
  sz : gc + 1 ≤ wr.heap.size
theorem ExMP.weak {w w' : World} {P Q : Nat → Prop} {x : Ex} {cs : List Value} (h : ExMP w P x cs) (hb : Below w.heap.size w w') (hQ : ∀ k, P k → k < w.heap.size → Q k) : ExMP w' Q x cs := ExMP.on hb.size (fun k _ hk => hb.block k hk) hQ _ _ h
structure WJ (w N : World) (g gc gx : Nat) (cb : List Value) (CV : Value → List Value) (ry : RawE) (y : Ex) (v : Value) (M : List Ex) : Prop where
  kc : KX N gc (CV v)
  o : OwnX N (gc + 1) (fun k => k ≠ gc) v M
  kb : KX N g cb
  xb : XB N gx ry
  y : ExMP N (fun k => k ≠ gc ∧ v.ownBlock ≠ some k) y ry.cells
  b : Below w.heap.size w N
  sz : gc + 1 ≤ N.heap.size
  ox : v.ownBlock ≠ some gx
  gx : gc < gx
  gg : g < gc
  wg : w.heap.size ≤ gc
theorem WJ.first {w N : World} {g gc gx : Nat} {cb : List Value} {CV : Value → List Value} {ry : RawE} {y : Ex} {v : Value} {M : List Ex} (h : WJ w N g gc gx cb CV ry y v M) (T : TypeId) :
    OwnX (N.alloc (.cells ry.cells.toArray T)) (gc + 1) (fun k => k ≠ gc) v M ∧ ExMP (N.alloc (.cells ry.cells.toArray T)) (fun k => k ≠ gc ∧ v.ownBlock ≠ some k) y ry.cells ∧ gc + 1 ≤ (N.alloc (.cells ry.cells.toArray T)).heap.size := by
  have hb : Below N.heap.size N (N.alloc (.cells ry.cells.toArray T)) := ext_alloc (ext_refl _) _
  exact ⟨h.o.later hb, h.y.up hb, Nat.le_trans h.sz hb.size⟩
theorem WJ.mid {w N w' : World} {g gc gx : Nat} {cb : List Value} {CV : Value → List Value} {ry : RawE} {y : Ex} {v : Value} {M : List Ex} (h : WJ w N g gc gx cb CV ry y v M) {T : TypeId} (ho : Out (fun k => v.ownBlock = some k) (N.alloc (.cells ry.cells.toArray T)) w') : KX w' gc (CV v) := by
  have hb : Below N.heap.size N (N.alloc (.cells ry.cells.toArray T)) := ext_alloc (ext_refl _) _
  exact (h.kc.on hb).out ho fun e => absurd (h.o.lt gc e).1 (by omega)
theorem WJ.put {w N w' : World} {g gc gx : Nat} {cb : List Value} {CV : Value → List Value} {ry : RawE} {y : Ex} {v : Value} {M : List Ex} (h : WJ w N g gc gx cb CV ry y v M) {T : TypeId} (hCV : ∀ v u, (CV v).set 4 u = CV u) (hlen : ∀ v, 4 < (CV v).length) {v' : Value} (hO : OwnX w' (gc + 1) (fun k => k ≠ gc) v' (M ++ [y]))
    (ho : Out (fun k => v.ownBlock = some k) (N.alloc (.cells ry.cells.toArray T)) w') (h7 : v'.ownBlock = v.ownBlock ∨ v'.ownBlock = some (N.heap.size + 1)) : WJ w (w'.setCell ⟨gc, 4, none⟩ v') g gc gx cb CV ry y v' (M ++ [y]) := by
  have hb : Below N.heap.size N (N.alloc (.cells ry.cells.toArray T)) := ext_alloc (ext_refl _) _
  have hs : Out (fun k => k = gc) w' (w'.setCell ⟨gc, 4, none⟩ v') := Out.set ⟨gc, 4, none⟩ _ rfl
  have hg : ¬ v.ownBlock = some g := fun e => absurd (h.o.lt g e).1 (by have := h.gg; omega)
  have hgg := h.gg
  have hgx := h.gx
  have hwg := h.wg
  have hN : ∀ k, k < N.heap.size → v.ownBlock ≠ some k → v'.ownBlock ≠ some k := fun k hk hv e => by
    rcases h7 with h7 | h7
    · rw [h7] at e; exact hv e
    · rw [h7] at e; cases e; omega
  refine ⟨?_, hO.outs hs (fun k hk => ?_) (fun k hk => ?_), ((h.kb.on hb).out ho hg).out hs (by show ¬ g = gc; omega), ((h.xb.on hb).out ho h.ox).out hs (by show ¬ gx = gc; omega), ?_, ?_, ?_, hN gx h.xb.lt h.ox, h.gx, h.gg, h.wg⟩
  · have := (h.mid ho).set (k := 4) (u := v') (hlen v)
    rw [hCV] at this
    exact this
  · intro e
    have := (hO.lt k e).1
    have hk : k = gc := hk
    omega
  · have hk : k = gc := hk
    exact fun h => h hk
  · have h1 : ExMP w' (fun k => k ≠ gc ∧ v'.ownBlock ≠ some k) y ry.cells := ExMP.on (Nat.le_trans hb.size ho.size) (fun k hk hkn => (ho.block k (Nat.lt_of_lt_of_le hkn hb.size) hk.2).trans (hb.block k hkn)) (fun k hk hkn => ⟨hk.1, hN k hkn hk.2⟩) _ _ h.y
    exact ExMP.on hs.size (fun k hk hkn => hs.block k hkn hk.1) (fun k hk _ => hk) _ _ h1
  · have h1 : Below w.heap.size N w' := (hb.mono h.b.size).trans (ho.below (Nat.le_trans h.b.size hb.size) fun k e => by have := (h.o.lt k e).1; omega)
    exact h.b.trans (h1.trans (hs.below (Nat.le_trans h.b.size h1.size) fun k e => by have e : k = gc := e; omega))
  · exact Nat.le_trans h.sz (Nat.le_trans hb.size (Nat.le_trans ho.size hs.size))
theorem WJ.plain {w V : World} {g gc : Nat} {cb : List Value} {CV : Value → List Value} {ry : RawE} {y : Ex} {v : Value} {M : List Ex} (T : TypeId) (kc : KX V gc (CV v)) (o : OwnX V (gc + 1) (fun k => k ≠ gc) v M) (kb : KX V g cb) (x : ExMP V (fun k => k < w.heap.size) y ry.cells) (b : Below w.heap.size w V) (sz : gc + 1 ≤ V.heap.size) (gg : g < gc) (wg : w.heap.size ≤ gc) :
    WJ w (V.alloc (.cells ry.cells.toArray T)) g gc V.heap.size cb CV ry y v M := by
  have hb : Below V.heap.size V (V.alloc (.cells ry.cells.toArray T)) := ext_alloc (ext_refl _) _
  exact ⟨kc.on hb, o.later hb, kb.on hb, XB.new V ry T, x.weak hb fun k hk _ => ⟨by omega, fun e => by have := (o.lt k e).1; omega⟩, b.trans (hb.mono b.size), Nat.le_trans sz hb.size, fun e => by have := (o.lt _ e).2; omega, by omega, gg, wg⟩
theorem WJ.turn {w V X : World} {g gc : Nat} {cb : List Value} {CV : Value → List Value} {ry r2 : RawE} {y : Ex} {v : Value} {M : List Ex} {T : TypeId} (kc : KX V gc (CV v)) (o : OwnX V (gc + 1) (fun k => k ≠ gc) v M) (kb : KX V g cb) (hX : Below (V.alloc (.cells ry.cells.toArray T)).heap.size (V.alloc (.cells ry.cells.toArray T)) X)
    (x : ExMP X (fun k => k < w.heap.size ∨ (V.alloc (.cells ry.cells.toArray T)).heap.size ≤ k) y r2.cells) (b : Below w.heap.size w V) (sz : gc + 1 ≤ V.heap.size) (gg : g < gc) (wg : w.heap.size ≤ gc) :
    WJ w (setE X V.heap.size 0 r2) g gc V.heap.size cb CV r2 y v M := by
  have h0 : Below V.heap.size V (V.alloc (.cells ry.cells.toArray T)) := ext_alloc (ext_refl _) _
  have hb : Below V.heap.size V X := h0.trans (hX.mono h0.size)
  have hs := setE_out X V.heap.size 0 r2
  have hz := World.size_alloc V (.cells ry.cells.toArray T)
  have hkg := kb.lt
  refine ⟨(kc.on hb).out hs (by show ¬ gc = _; omega), (((o.weaken (Q := fun k => k ≠ gc ∧ k ≠ V.heap.size) (Nat.le_refl _) (fun k h hk => ⟨h, by omega⟩)).later hb).outs hs (fun k hk e => ?_) (fun k hk h => h.2 hk)).weaken (Nat.le_refl _) (fun k h _ => h.1), (kb.on hb).out hs (by show ¬ g = _; omega), ((XB.new V ry T).on hX).setAll r2, ?_, ?_, Nat.le_trans sz (Nat.le_trans hb.size hs.size), fun e => ?_, by omega, gg, wg⟩
  · have hk : k = V.heap.size := hk
    have := (o.lt k e).2
    omega
  · exact ExMP.on hs.size (fun k hk hkn => hs.block k hkn (by show ¬ k = _; rw [hz] at hk; omega)) (fun k hk _ => ⟨by rw [hz] at hk; omega, fun e => by have := o.lt k e; rw [hz] at hk; omega⟩) _ _ x
  · exact b.trans ((hb.mono b.size).trans (hs.below (Nat.le_trans b.size hb.size) fun k e => by have e : k = V.heap.size := e; have := b.size; omega))
  · have := (o.lt _ e).2; omega
theorem ways_more {K M : List Ex} {i : Nat} {x y : Ex} (hx : K[i]? = some x) (ha : Alike x y) (h1 : ∀ k z, i + 1 ≤ k → K[k]? = some z → ∃ y ∈ M, Alike z y) (h2 : ∀ y ∈ M, ∃ x ∈ K, Alike x y) : (∀ k z, i ≤ k → K[k]? = some z → ∃ y' ∈ M ++ [y], Alike z y') ∧ ∀ y' ∈ M ++ [y], ∃ x ∈ K, Alike x y' := by
  refine ⟨fun k z hk hz => ?_, fun y' hy => ?_⟩
  · by_cases e : k = i
    · subst e
      rw [hx] at hz
      cases hz
      exact ⟨y, by simp, ha⟩
    · obtain ⟨y', h3, h4⟩ := h1 k z (by omega) hz
      exact ⟨y', List.mem_append.2 (.inl h3), h4⟩
  · rcases List.mem_append.1 hy with hy | hy
    · exact h2 y' hy
    · rw [List.mem_singleton.1 hy]
      exact ⟨x, List.mem_of_getElem? hx, ha⟩
theorem ways_twice {K M : List Ex} {i : Nat} {x y : Ex} (hx : K[i]? = some x) (ha : Alike x y) (h1 : ∀ k z, i ≤ k → K[k]? = some z → ∃ y' ∈ M ++ [y], Alike z y') (h2 : ∀ y' ∈ M ++ [y], ∃ x ∈ K, Alike x y') : (∀ k z, i ≤ k → K[k]? = some z → ∃ y' ∈ M ++ [y] ++ [y], Alike z y') ∧ ∀ y' ∈ M ++ [y] ++ [y], ∃ x ∈ K, Alike x y' :=
  ways_more hx ha (fun k z hk hz => h1 k z (by omega) hz) h2
set_option maxHeartbeats 8000000 in
theorem signWays_any (r : RawK) (tabs : List Int) (L : List Ex) (set which : Int) (w : World) (h : BlkIn w r tabs L) (hG : GE w) (hs : inR set = true) (hw : inR which = true) (hci : inR r.core = true) (hti : ∀ t ∈ tabs, inR t = true) :
    Calls Tryd.prog 6 #[.agg r.cells.toArray, .int .i64 set, .int .i64 which] w fun e w' => e = .returned (.bool true) ∧ Below w.heap.size w w' := by
  have H := Lib.hid h
  have HG := Lib.hid hG
  have HTI := Lib.hid hti
  have HCI := Lib.hid hci
  have HSI := Lib.hid hs
  have HWI := Lib.hid hw
  have HK := Lib.hid (KX.new w r.cells 43)
  have HB := Lib.hid (show Below w.heap.size w (w.alloc (.cells r.cells.toArray 43)) from ext_alloc (ext_refl _) _)
  obtain ⟨⟨tq, tn, tc⟩, core, ⟨kq, kn, kc⟩, ⟨oq, on, oc⟩, ⟨cq, cn, cc⟩, ⟨aq, an, ac⟩, ⟨uq, un, uc⟩, gr, ⟨eq, en, ec⟩, ⟨iq, in_, ic⟩, di⟩ := r
  have hcn : cn = L.length := h.cn
  have hcc : cn ≤ cc := h.cc.1
  have hcm : cc ≤ 9223372036854775807 := h.cc.2
  obtain ⟨W, hW⟩ : ∃ W, W = w.alloc (.cells (RawK.cells ⟨⟨tq, tn, tc⟩, core, ⟨kq, kn, kc⟩, ⟨oq, on, oc⟩, ⟨cq, cn, cc⟩, ⟨aq, an, ac⟩, ⟨uq, un, uc⟩, gr, ⟨eq, en, ec⟩, ⟨iq, in_, ic⟩, di⟩).toArray 43) := ⟨_, rfl⟩
  rw [← hW] at HK HB
  have HW := Lib.hid hW
  have HCN := Lib.hid hcn
  clear hW hG hs hw hci hti h hcn
  go_enter Tryd.func6, Tryd.ntmps6
  go_upto_region 1 with fail
  change Code.wp _ _ _ _ (w.alloc (.cells (RawK.cells ⟨⟨tq, tn, tc⟩, core, ⟨kq, kn, kc⟩, ⟨oq, on, oc⟩, ⟨cq, cn, cc⟩, ⟨aq, an, ac⟩, ⟨uq, un, uc⟩, gr, ⟨eq, en, ec⟩, ⟨iq, in_, ic⟩, di⟩).toArray 43))
  rw [← HW.out]
  clear HW
  obtain ⟨g, hg⟩ : ∃ g, g = w.heap.size := ⟨_, rfl⟩
  rw [← hg] at HK ⊢
  have HGG := Lib.hid hg
  clear hg
  go_wp2_with fail
  refine (examples12_any W (HG.out.on HB.out)).mono ?_
  rintro e Y ⟨rfl, hy⟩
  have HKY := Lib.hid (HK.out.on hy)
  have HBY := Lib.hid (HB.out.trans (hy.mono HB.out.size))
  clear hy HK HB
  have lt := HKY.out.lt
  have c4 := HKY.out.c 4 _ rfl
  have z4 := HKY.out.fz 4
  obtain ⟨m, hm⟩ : ∃ m : Nat, m = min cn 12 := ⟨_, rfl⟩
  have hmin : (min (cn : Int) 12).toNat = m := by omega
  go_upto_region 3 with fail
  rw [← hm]
  have hmn : m ≤ cn := by omega
  have HM := Lib.hid (show m ≤ 12 by omega)
  have hsu : Out (fun k => k = g) Y (Y.setCell ⟨g, 4, none⟩ (.slice cq m cc)) := Out.set ⟨g, 4, none⟩ _ rfl
  have HKU := Lib.hid (show KX (Y.setCell ⟨g, 4, none⟩ (.slice cq m cc)) g (RawK.cells ⟨⟨tq, tn, tc⟩, core, ⟨kq, kn, kc⟩, ⟨oq, on, oc⟩, ⟨cq, m, cc⟩, ⟨aq, an, ac⟩, ⟨uq, un, uc⟩, gr, ⟨eq, en, ec⟩, ⟨iq, in_, ic⟩, di⟩) from HKY.out.set (k := 4) (by simp))
  have HBU := Lib.hid (HBY.out.trans (hsu.below HBY.out.size (fun k hk => by rw [hk, HGG.out]; exact Nat.le_refl _)))
  generalize Y.setCell ⟨g, 4, none⟩ (.slice cq m cc) = U at HKU HBU ⊢
  have HBI := Lib.hid (show BlkIn U ⟨⟨tq, tn, tc⟩, core, ⟨kq, kn, kc⟩, ⟨oq, on, oc⟩, ⟨cq, m, cc⟩, ⟨aq, an, ac⟩, ⟨uq, un, uc⟩, gr, ⟨eq, en, ec⟩, ⟨iq, in_, ic⟩, di⟩ tabs (L.take m) from by
    have h := H.out.on HBU.out
    have hl : (L.take m).length = m := by rw [List.length_take]; have := HCN.out; omega
    exact ⟨h.tn, h.tc, h.t, hl.symm, ⟨Nat.le_trans hmn hcc, hcm⟩, h.co.take m, by rw [hl]; have := h.few; have := HCN.out; omega⟩)
  have HLM := Lib.hid (show (L.take m).length = m by rw [List.length_take]; have := HCN.out; omega)
  clear hm hmin hsu c4 z4 lt HBY HKY
  have lt := HKU.out.lt
  have c0 := HKU.out.c 0 _ rfl
  have c1 := HKU.out.c 1 _ rfl
  have c2 := HKU.out.c 2 _ rfl
  have c3 := HKU.out.c 3 _ rfl
  have c4 := HKU.out.c 4 _ rfl
  have c5 := HKU.out.c 5 _ rfl
  have c6 := HKU.out.c 6 _ rfl
  have c7 := HKU.out.c 7 _ rfl
  have c8 := HKU.out.c 8 _ rfl
  have c9 := HKU.out.c 9 _ rfl
  have c10 := HKU.out.c 10 _ rfl
  go_wp2_with fail
  refine (dof_any ⟨⟨tq, tn, tc⟩, core, ⟨kq, kn, kc⟩, ⟨oq, on, oc⟩, ⟨cq, m, cc⟩, ⟨aq, an, ac⟩, ⟨uq, un, uc⟩, gr, ⟨eq, en, ec⟩, ⟨iq, in_, ic⟩, di⟩ tabs (L.take m) set U HBI.out (HG.out.on HBU.out) HSI.out HCI.out (by have h1 := HLM.out; have h2 := HM.out; omega) HTI.out).mono ?_
  rintro e Z ⟨rfl, hz⟩
  have HBZ := Lib.hid (HBU.out.trans (hz.mono HBU.out.size))
  have HKZ := Lib.hid (HKU.out.on hz)
  clear c0 c1 c2 c3 c4 c5 c6 c7 c8 c9 c10 lt hz
  have lt := HKZ.out.lt
  have c0 := HKZ.out.c 0 _ rfl
  have c1 := HKZ.out.c 1 _ rfl
  have c2 := HKZ.out.c 2 _ rfl
  have c3 := HKZ.out.c 3 _ rfl
  have c4 := HKZ.out.c 4 _ rfl
  have c5 := HKZ.out.c 5 _ rfl
  have c6 := HKZ.out.c 6 _ rfl
  have c7 := HKZ.out.c 7 _ rfl
  have c8 := HKZ.out.c 8 _ rfl
  have c9 := HKZ.out.c 9 _ rfl
  have c10 := HKZ.out.c 10 _ rfl
  rw [show RawK.core ⟨⟨tq, tn, tc⟩, core, ⟨kq, kn, kc⟩, ⟨oq, on, oc⟩, ⟨cq, m, cc⟩, ⟨aq, an, ac⟩, ⟨uq, un, uc⟩, gr, ⟨eq, en, ec⟩, ⟨iq, in_, ic⟩, di⟩ = core from rfl]
  obtain ⟨S1, hS1⟩ : ∃ s, s = bsB (ofE tabs core (L.take m) set).1 := ⟨_, rfl⟩
  obtain ⟨E1, hE1⟩ : ∃ s, s = (ofE tabs core (L.take m) set).2 := ⟨_, rfl⟩
  rw [← hS1, ← hE1]
  have HS1 := Lib.hid hS1
  have HE1 := Lib.hid hE1
  clear hS1 hE1
  go_upto_region 6 with fail
  have HKC := Lib.hid (KX.new Z [.slice tq tn tc, .int .i64 core, .slice kq kn kc, .slice oq on oc, .slice none 0 0, .slice aq an ac, .slice uq un uc, .bool gr, .slice eq en ec, .slice iq in_ ic, .bool di] 43)
  have bz : Below Z.heap.size Z (Z.alloc (.cells ([.slice tq tn tc, .int .i64 core, .slice kq kn kc, .slice oq on oc, .slice none 0 0, .slice aq an ac, .slice uq un uc, .bool gr, .slice eq en ec, .slice iq in_ ic, .bool di] : List Value).toArray 43)) := ext_alloc (ext_refl _) _
  have HKV := Lib.hid (HKZ.out.on bz)
  have HBV := Lib.hid (HBZ.out.trans (bz.mono HBZ.out.size))
  have HSZ := Lib.hid (show Z.heap.size + 1 = (Z.alloc (.cells ([.slice tq tn tc, .int .i64 core, .slice kq kn kc, .slice oq on oc, .slice none 0 0, .slice aq an ac, .slice uq un uc, .bool gr, .slice eq en ec, .slice iq in_ ic, .bool di] : List Value).toArray 43)).heap.size from (World.size_alloc _ _).symm)
  have HGGG := Lib.hid (show g < Z.heap.size from HKZ.out.lt)
  have HGC := Lib.hid (show w.heap.size ≤ Z.heap.size from HBZ.out.size)
  have HGN := Lib.hid (show g ≠ Z.heap.size from by have := HKZ.out.lt; omega)
  change Code.wp _ _ _ _ (Z.alloc (.cells ([.slice tq tn tc, .int .i64 core, .slice kq kn kc, .slice oq on oc, .slice none 0 0, .slice aq an ac, .slice uq un uc, .bool gr, .slice eq en ec, .slice iq in_ ic, .bool di] : List Value).toArray 43))
  generalize Z.alloc (.cells ([.slice tq tn tc, .int .i64 core, .slice kq kn kc, .slice oq on oc, .slice none 0 0, .slice aq an ac, .slice uq un uc, .bool gr, .slice eq en ec, .slice iq in_ ic, .bool di] : List Value).toArray 43) = V at HKC HKV HBV HSZ ⊢
  obtain ⟨gc, hgc⟩ : ∃ k, k = Z.heap.size := ⟨_, rfl⟩
  rw [← hgc] at HKC HSZ HGC HGN HGGG ⊢
  clear hgc bz HKZ HBZ lt c0 c1 c2 c3 c4 c5 c6 c7 c8 c9 c10
  have lt := HKV.out.lt
  have c4 := HKV.out.c 4 _ rfl
  have HL := Lib.hid (show ExL w cq 0 (L.take m) from H.out.co.take m)
  obtain ⟨K, hK⟩ : ∃ K, K = L.take m := ⟨_, rfl⟩
  rw [← hK] at HL HLM HS1 HE1
  clear hK hcc hcm hmn HKU HBU HBI HCN
  go_wp2_with fail
  clear c4 lt
  go_loopw [11] (fun v11 wr => ∃ (j : Nat) (z : Int), v11 = .int .i64 z ∧ z = (j : Int) - 1 ∧ j ≤ m ∧ Hid (WI w wr g gc (RawK.cells ⟨⟨tq, tn, tc⟩, core, ⟨kq, kn, kc⟩, ⟨oq, on, oc⟩, ⟨cq, m, cc⟩, ⟨aq, an, ac⟩, ⟨uq, un, uc⟩, gr, ⟨eq, en, ec⟩, ⟨iq, in_, ic⟩, di⟩) (fun v => [.slice tq tn tc, .int .i64 core, .slice kq kn kc, .slice oq on oc, v, .slice aq an ac, .slice uq un uc, .bool gr, .slice eq en ec, .slice iq in_ ic, .bool di]) K j)) (fun v11 _ => (intOf v11 + 1).toNat)
  case atStart => exact ⟨m, _, rfl, by have := HM.out; unfold wrap64; omega, Nat.le_refl _, ⟨⟨_, [], HKC.out, OwnX.nil _ _ _, by simp, fun k x hk hx => absurd (List.getElem?_eq_some_iff.1 hx).1 (by have := HLM.out; omega), fun y hy => by simp at hy⟩, HKV.out, HBV.out, by rw [← HSZ.out]; exact Nat.le_refl _⟩⟩
  case round =>
    obtain ⟨j, z, rfl, hz, hjm, HH⟩ := hrel
    obtain ⟨V, hV⟩ : ∃ V, V = wr := ⟨_, rfl⟩
    rw [← hV] at HH
    rw [← hV]
    clear hV
    cases j with
    | zero =>
      have hz : ¬ 0 ≤ z := by omega
      obtain ⟨v, M, hkc, hown, hlen, hall, hfrom⟩ := HH.out.ex
      obtain ⟨qv, cv, rfl, hle, hcap, hxl⟩ := hown.toL
      obtain ⟨nv, hnv⟩ : ∃ n, n = M.length := ⟨_, rfl⟩
      rw [← hnv] at hkc
      have HKC2 := Lib.hid hkc
      have hfew : M.length ≤ 24 := by have := HLM.out; have := HM.out; omega
      have HBI := Lib.hid (show BlkIn V ⟨⟨tq, tn, tc⟩, core, ⟨kq, kn, kc⟩, ⟨oq, on, oc⟩, ⟨qv, nv, cv⟩, ⟨aq, an, ac⟩, ⟨uq, un, uc⟩, gr, ⟨eq, en, ec⟩, ⟨iq, in_, ic⟩, di⟩ tabs M from by
        have h := H.out.on HH.out.b
        exact ⟨h.tn, h.tc, h.t, hnv, ⟨by show nv ≤ cv; omega, hcap⟩, hxl, by omega⟩)
      have HFW := Lib.hid hfew
      have HSW := Lib.hid (sign_ways tabs core set K M (fun x hx => by
        obtain ⟨k, hk⟩ := List.getElem?_of_mem hx
        exact hall k x (Nat.zero_le _) hk) hfrom)
      have HBV2 := Lib.hid HH.out.b
      clear hkc hown hlen hall hfrom hle hcap hxl hnv hfew HH
      have lt := HKC2.out.lt
      have c0 := HKC2.out.c 0 _ rfl
      have c1 := HKC2.out.c 1 _ rfl
      have c2 := HKC2.out.c 2 _ rfl
      have c3 := HKC2.out.c 3 _ rfl
      have c4 := HKC2.out.c 4 _ rfl
      have c5 := HKC2.out.c 5 _ rfl
      have c6 := HKC2.out.c 6 _ rfl
      have c7 := HKC2.out.c 7 _ rfl
      have c8 := HKC2.out.c 8 _ rfl
      have c9 := HKC2.out.c 9 _ rfl
      have c10 := HKC2.out.c 10 _ rfl
      go_wp2_with fail
      refine (dof_any ⟨⟨tq, tn, tc⟩, core, ⟨kq, kn, kc⟩, ⟨oq, on, oc⟩, ⟨qv, nv, cv⟩, ⟨aq, an, ac⟩, ⟨uq, un, uc⟩, gr, ⟨eq, en, ec⟩, ⟨iq, in_, ic⟩, di⟩ tabs M set V HBI.out (HG.out.on HBV2.out) HSI.out HCI.out (by have := HFW.out; omega) HTI.out).mono ?_
      rintro e X ⟨rfl, hx⟩
      have HBX := Lib.hid (HBV2.out.trans (hx.mono HBV2.out.size))
      rw [show RawK.core ⟨⟨tq, tn, tc⟩, core, ⟨kq, kn, kc⟩, ⟨oq, on, oc⟩, ⟨qv, nv, cv⟩, ⟨aq, an, ac⟩, ⟨uq, un, uc⟩, gr, ⟨eq, en, ec⟩, ⟨iq, in_, ic⟩, di⟩ = core from rfl, HSW.out, ← HS1.out, ← HE1.out]
      clear hx lt c0 c1 c2 c3 c4 c5 c6 c7 c8 c9 c10
      go_wp2_with fail
      refine bodyPost_ret (v := .bool true) (by simp [results, Tryd.results6, go_sem]) rfl ⟨rfl, HBX.out⟩
    | succ i =>
      have hzi : z = (i : Int) := by omega
      clear hz
      subst hzi
      obtain ⟨x, hx⟩ : ∃ x, K[i]? = some x := ⟨_, List.getElem?_eq_getElem (by have := HLM.out; omega)⟩
      obtain ⟨g0, off0, cs0, hq0, hg0, hx0, hcell⟩ := ExL.at_ HL.out hx
      subst hq0
      have HX0 := Lib.hid (ExMP.up (ExM.toP _ _ hx0) HH.out.b)
      have HXK := Lib.hid hx
      clear hx
      obtain ⟨op1, v1, rel1, col1, n1, s1, l1⟩ := x
      obtain ⟨x, hxx⟩ : ∃ x, x = Ex.mk op1 v1 rel1 col1 n1 s1 l1 := ⟨_, rfl⟩
      rw [← hxx] at HX0 HXK
      rw [ExM.iff] at hx0
      obtain ⟨-, qq0, cc0, rfl, -, -⟩ := hx0
      obtain ⟨len, hlen⟩ : ∃ len, len = l1.length := ⟨_, rfl⟩
      rw [← hlen] at HX0 hcell
      have f0 := (HH.out.b.cell (p := ⟨g0, off0 + (0 + i) * 9 + 0, none⟩) hg0).trans (hcell 0 _ rfl)
      have f1 := (HH.out.b.cell (p := ⟨g0, off0 + (0 + i) * 9 + 1, none⟩) hg0).trans (hcell 1 _ rfl)
      have f2 := (HH.out.b.cell (p := ⟨g0, off0 + (0 + i) * 9 + 2, none⟩) hg0).trans (hcell 2 _ rfl)
      have f3 := (HH.out.b.cell (p := ⟨g0, off0 + (0 + i) * 9 + 3, none⟩) hg0).trans (hcell 3 _ rfl)
      have f4 := (HH.out.b.cell (p := ⟨g0, off0 + (0 + i) * 9 + 4, none⟩) hg0).trans (hcell 4 _ rfl)
      have f5 := (HH.out.b.cell (p := ⟨g0, off0 + (0 + i) * 9 + 5, none⟩) hg0).trans (hcell 5 _ rfl)
      have f6 := (HH.out.b.cell (p := ⟨g0, off0 + (0 + i) * 9 + 6, none⟩) hg0).trans (hcell 6 _ rfl)
      have f7 := (HH.out.b.cell (p := ⟨g0, off0 + (0 + i) * 9 + 7, none⟩) hg0).trans (hcell 7 _ rfl)
      have f8 := (HH.out.b.cell (p := ⟨g0, off0 + (0 + i) * 9 + 8, none⟩) hg0).trans (hcell 8 _ rfl)
      simp only [Nat.zero_add, Nat.add_zero] at f0 f1 f2 f3 f4 f5 f6 f7 f8
      have hg0 := Nat.lt_of_lt_of_le hg0 HH.out.b.size
      have lt := HH.out.kb.lt
      have c4 := HH.out.kb.c 4 _ rfl
      clear hcell hlen hxx
      have him : i < m := hjm
      clear hjm
      obtain ⟨v, M, hkc, hown, hMl, hall, hfrom⟩ := HH.out.ex
      obtain ⟨qv, cv, rfl, -, -, -⟩ := hown.toL
      obtain ⟨nv, hnv⟩ : ∃ n, n = M.length := ⟨_, rfl⟩
      rw [← hnv] at hkc hown
      have HKC3 := Lib.hid hkc
      have HOW := Lib.hid hown
      have HALL := Lib.hid hall
      have HFROM := Lib.hid hfrom
      have HNV := Lib.hid hnv
      have HGG := Lib.hid (show g < gc from HGGG.out)
      have HFEW := Lib.hid (show (nv + 1) * 104 ≤ 140737488355328 - 208 ∧ M.length + 2 ≤ 2 * (K.length - i) from by
        have := HLM.out; have := HM.out; omega)
      clear hkc hown hMl hall hfrom hnv
      go_upto_region 10 with fail
      cases hbit : (bits BinOp.and IntKind.i64 (which / 2 ^ (i % 8)) 1 == 1) with
      | false =>
        clear f0 f1 f2 f3 f4 f5 f6 f7 f8 hg0 c4 lt
        go_upto_region 12 with fail
        have HJ := Lib.hid (WJ.plain (ry := ⟨op1, v1, rel1, col1, n1, s1, qq0, len, cc0⟩) (CV := fun v => [.slice tq tn tc, .int .i64 core, .slice kq kn kc, .slice oq on oc, v, .slice aq an ac, .slice uq un uc, .bool gr, .slice eq en ec, .slice iq in_ ic, .bool di]) 26 HKC3.out HOW.out HH.out.kb HX0.out HH.out.b HH.out.sz HGG.out HGC.out)
        have HAL := Lib.hid (show Alike x x from .inl rfl)
        change Code.wp _ _ _ _ (V.alloc (.cells (RawE.cells ⟨op1, v1, rel1, col1, n1, s1, qq0, len, cc0⟩).toArray 26))
        generalize V.alloc (.cells (RawE.cells ⟨op1, v1, rel1, col1, n1, s1, qq0, len, cc0⟩).toArray 26) = N at HJ ⊢
        obtain ⟨gx, hgx⟩ : ∃ k, k = V.heap.size := ⟨_, rfl⟩
        rw [← hgx] at HJ ⊢
        obtain ⟨ry, hry⟩ : ∃ r : RawE, r = ⟨op1, v1, rel1, col1, n1, s1, qq0, len, cc0⟩ := ⟨_, rfl⟩
        rw [← hry] at HJ
        obtain ⟨y, hyy⟩ : ∃ y, y = x := ⟨_, rfl⟩
        rw [show Alike x x = Alike x y by rw [hyy]] at HAL
        rw [← hyy] at HJ
        clear hgx hry hyy
        obtain ⟨opy, ⟨vky, vny, vsy⟩, rely, coly, ny, sy, qy, leny, cy⟩ := ry
        have lc := HJ.out.kc.lt
        have c4 := HJ.out.kc.c 4 _ rfl
        have lx := HJ.out.xb.lt
        have d0 := HJ.out.xb.c 0 _ rfl
        have d1 := HJ.out.xb.c 1 _ rfl
        have d2 := HJ.out.xb.c 2 _ rfl
        have d3 := HJ.out.xb.c 3 _ rfl
        have d4 := HJ.out.xb.c 4 _ rfl
        have d5 := HJ.out.xb.c 5 _ rfl
        have d6 := HJ.out.xb.c 6 _ rfl
        have d7 := HJ.out.xb.c 7 _ rfl
        have d8 := HJ.out.xb.c 8 _ rfl
        have HF := Lib.hid (HJ.out.first 26)
        go_wp2_with (at_builtin; refine wp_append_z rfl _ _ rfl (gc + 1) (fun k => k ≠ gc) _ M rfl HF.out.1 nv HNV.out ⟨opy, ⟨vky, vny, vsy⟩, rely, coly, ny, sy, qy, leny, cy⟩ y _ _ 0 (N.heap.size + 1) rfl (one_block RawE.cells_len 26 _ ⟨opy, ⟨vky, vny, vsy⟩, rely, coly, ny, sy, qy, leny, cy⟩ rfl _ rfl) HF.out.2.1 (by have := HFEW.out.1; omega) HF.out.2.2 ?_)
        intro q3 c3 Y hO hbY hoY h7
        have HJ2 := Lib.hid (HJ.out.put (T := 26) (fun _ _ => rfl) (fun _ => by simp) hO hoY h7)
        have hmid := HJ.out.mid hoY
        clear lc c4 lx d0 d1 d2 d3 d4 d5 d6 d7 d8 HF hO hbY hoY h7 HJ
        have lc := hmid.lt
        have c4 := hmid.c 4 _ rfl
        have z4 := hmid.fz 4
        clear hmid
        go_upto_region 13 with fail
        generalize Y.setCell ⟨gc, 4, none⟩ (.slice q3 (nv + 1) c3) = N at HJ2 ⊢
        have HJ := HJ2
        clear HJ2 lc c4 z4
        obtain ⟨hm1, hm2⟩ := ways_more HXK.out HAL.out HALL.out HFROM.out
        have HM1 := Lib.hid hm1
        have HM2 := Lib.hid hm2
        clear hm1 hm2
        cases hthree : ((i : Int) % 3 == 0) with
        | false =>
          go_wp2_with fail
          go_roundw
          case rel => exact ⟨i, _, rfl, by have := HM.out; unfold wrap64; omega, by omega, ⟨⟨_, _, HJ.out.kc, HJ.out.o, by have := HFEW.out.2; simp; omega, HM1.out, HM2.out⟩, HJ.out.kb, HJ.out.b, HJ.out.sz⟩⟩
          case measure => have := HM.out; simp [intOf] <;> (try unfold wrap64) <;> omega
        | true =>
          obtain ⟨hm1, hm2⟩ := ways_twice HXK.out HAL.out HM1.out HM2.out
          have HN1 := Lib.hid hm1
          have HN2 := Lib.hid hm2
          clear hm1 hm2 HM1 HM2 HALL HFROM HAL HXK
          go_upto_region 14 with fail
          obtain ⟨nw, hnw⟩ : ∃ n, n = nv + 1 := ⟨_, rfl⟩
          obtain ⟨M1, hM1⟩ : ∃ K1, K1 = M ++ [y] := ⟨_, rfl⟩
          rw [← hnw, ← hM1] at HJ
          rw [← hM1] at HN1 HN2
          have HNW := Lib.hid (show nw = M1.length by rw [hnw, hM1, HNV.out]; simp)
          have HFE2 := Lib.hid (show (nw + 1) * 104 ≤ 140737488355328 ∧ M1.length + 1 ≤ 2 * (K.length - i) from by
            have h1 := HFEW.out.1
            have h2 := HFEW.out.2
            have h3 : M1.length = M.length + 1 := by rw [hM1, List.length_append]; rfl
            exact ⟨by omega, by omega⟩)
          clear hthree hnw hM1 HNV HFEW
          have lc := HJ.out.kc.lt
          have c4 := HJ.out.kc.c 4 _ rfl
          have lx := HJ.out.xb.lt
          have d0 := HJ.out.xb.c 0 _ rfl
          have d1 := HJ.out.xb.c 1 _ rfl
          have d2 := HJ.out.xb.c 2 _ rfl
          have d3 := HJ.out.xb.c 3 _ rfl
          have d4 := HJ.out.xb.c 4 _ rfl
          have d5 := HJ.out.xb.c 5 _ rfl
          have d6 := HJ.out.xb.c 6 _ rfl
          have d7 := HJ.out.xb.c 7 _ rfl
          have d8 := HJ.out.xb.c 8 _ rfl
          have HF := Lib.hid (HJ.out.first 26)
          go_wp2_with (at_builtin; refine wp_append_z rfl _ _ rfl (gc + 1) (fun k => k ≠ gc) _ M1 rfl HF.out.1 nw HNW.out ⟨opy, ⟨vky, vny, vsy⟩, rely, coly, ny, sy, qy, leny, cy⟩ y _ _ 0 (N.heap.size + 1) rfl (one_block RawE.cells_len 26 _ ⟨opy, ⟨vky, vny, vsy⟩, rely, coly, ny, sy, qy, leny, cy⟩ rfl _ rfl) HF.out.2.1 (by have := HFE2.out.1; omega) HF.out.2.2 ?_)
          intro q4 c4_ Y hO hbY hoY h7
          have HJ2 := Lib.hid (HJ.out.put (T := 26) (fun _ _ => rfl) (fun _ => by simp) hO hoY h7)
          have hmid := HJ.out.mid hoY
          clear lc c4 lx d0 d1 d2 d3 d4 d5 d6 d7 d8 HF hO hbY hoY h7 HJ
          have lc := hmid.lt
          have c4 := hmid.c 4 _ rfl
          have z4 := hmid.fz 4
          clear hmid
          go_wp2_with fail
          go_roundw
          case rel => exact ⟨i, _, rfl, by have := HM.out; unfold wrap64; omega, by omega, ⟨⟨_, _, HJ2.out.kc, HJ2.out.o, by have := HFE2.out.2; simp; omega, HN1.out, HN2.out⟩, HJ2.out.kb, HJ2.out.b, HJ2.out.sz⟩⟩
          case measure => have := HM.out; simp [intOf] <;> (try unfold wrap64) <;> omega
      | true =>
        clear f0 f1 f2 f3 f4 f5 f6 f7 f8 hg0 c4 lt
        go_wp2_with fail
        refine (turned_any (fun k => k < w.heap.size) x _ _ (HX0.out.up (ext_alloc (ext_refl V) (.cells (exCells op1 v1 rel1 col1 n1 s1 qq0 len cc0).toArray 26)))).mono ?_
        rintro e X ⟨⟨ry, rfl, hr2⟩, hX⟩
        have HJ := Lib.hid (WJ.turn (ry := ⟨op1, v1, rel1, col1, n1, s1, qq0, len, cc0⟩) (CV := fun v => [.slice tq tn tc, .int .i64 core, .slice kq kn kc, .slice oq on oc, v, .slice aq an ac, .slice uq un uc, .bool gr, .slice eq en ec, .slice iq in_ ic, .bool di]) (T := 26) HKC3.out HOW.out HH.out.kb hX hr2 HH.out.b HH.out.sz HGG.out HGC.out)
        have HAL := Lib.hid (show Alike x (turnE x) from .inr rfl)
        obtain ⟨y, hyy⟩ : ∃ y, y = turnE x := ⟨_, rfl⟩
        rw [← hyy] at HJ HAL
        have XB0 := (XB.new V ⟨op1, v1, rel1, col1, n1, s1, qq0, len, cc0⟩ 26).on hX
        have lx := XB0.lt
        have d0 := XB0.c 0 _ rfl
        have d1 := XB0.c 1 _ rfl
        have d2 := XB0.c 2 _ rfl
        have d3 := XB0.c 3 _ rfl
        have d4 := XB0.c 4 _ rfl
        have d5 := XB0.c 5 _ rfl
        have d6 := XB0.c 6 _ rfl
        have d7 := XB0.c 7 _ rfl
        have d8 := XB0.c 8 _ rfl
        have fz := XB0.fz
        clear hyy XB0 hr2 hX
        obtain ⟨gx, hgx⟩ : ∃ k, k = V.heap.size := ⟨_, rfl⟩
        rw [← hgx] at HJ lx d0 d1 d2 d3 d4 d5 d6 d7 d8 fz ⊢
        clear hgx
        go_upto_region 12 with fail
        change Code.wp _ _ _ _ (setE X gx 0 ry)
        generalize setE X gx 0 ry = N at HJ ⊢
        clear lx d0 d1 d2 d3 d4 d5 d6 d7 d8 fz
        obtain ⟨opy, ⟨vky, vny, vsy⟩, rely, coly, ny, sy, qy, leny, cy⟩ := ry
        have lc := HJ.out.kc.lt
        have c4 := HJ.out.kc.c 4 _ rfl
        have lx := HJ.out.xb.lt
        have d0 := HJ.out.xb.c 0 _ rfl
        have d1 := HJ.out.xb.c 1 _ rfl
        have d2 := HJ.out.xb.c 2 _ rfl
        have d3 := HJ.out.xb.c 3 _ rfl
        have d4 := HJ.out.xb.c 4 _ rfl
        have d5 := HJ.out.xb.c 5 _ rfl
        have d6 := HJ.out.xb.c 6 _ rfl
        have d7 := HJ.out.xb.c 7 _ rfl
        have d8 := HJ.out.xb.c 8 _ rfl
        have HF := Lib.hid (HJ.out.first 26)
        go_wp2_with (at_builtin; refine wp_append_z rfl _ _ rfl (gc + 1) (fun k => k ≠ gc) _ M rfl HF.out.1 nv HNV.out ⟨opy, ⟨vky, vny, vsy⟩, rely, coly, ny, sy, qy, leny, cy⟩ y _ _ 0 (N.heap.size + 1) rfl (one_block RawE.cells_len 26 _ ⟨opy, ⟨vky, vny, vsy⟩, rely, coly, ny, sy, qy, leny, cy⟩ rfl _ rfl) HF.out.2.1 (by have := HFEW.out.1; omega) HF.out.2.2 ?_)
        intro q3 c3 Y hO hbY hoY h7
        have HJ2 := Lib.hid (HJ.out.put (T := 26) (fun _ _ => rfl) (fun _ => by simp) hO hoY h7)
        have hmid := HJ.out.mid hoY
        clear lc c4 lx d0 d1 d2 d3 d4 d5 d6 d7 d8 HF hO hbY hoY h7 HJ
        have lc := hmid.lt
        have c4 := hmid.c 4 _ rfl
        have z4 := hmid.fz 4
        clear hmid
        go_upto_region 13 with fail
        generalize Y.setCell ⟨gc, 4, none⟩ (.slice q3 (nv + 1) c3) = N at HJ2 ⊢
        have HJ := HJ2
        clear HJ2 lc c4 z4
        obtain ⟨hm1, hm2⟩ := ways_more HXK.out HAL.out HALL.out HFROM.out
        have HM1 := Lib.hid hm1
        have HM2 := Lib.hid hm2
        clear hm1 hm2
        cases hthree : ((i : Int) % 3 == 0) with
        | false =>
          go_wp2_with fail
          go_roundw
          case rel => exact ⟨i, _, rfl, by have := HM.out; unfold wrap64; omega, by omega, ⟨⟨_, _, HJ.out.kc, HJ.out.o, by have := HFEW.out.2; simp; omega, HM1.out, HM2.out⟩, HJ.out.kb, HJ.out.b, HJ.out.sz⟩⟩
          case measure => have := HM.out; simp [intOf] <;> (try unfold wrap64) <;> omega
        | true =>
          obtain ⟨hm1, hm2⟩ := ways_twice HXK.out HAL.out HM1.out HM2.out
          have HN1 := Lib.hid hm1
          have HN2 := Lib.hid hm2
          clear hm1 hm2 HM1 HM2 HALL HFROM HAL HXK
          go_upto_region 14 with fail
          obtain ⟨nw, hnw⟩ : ∃ n, n = nv + 1 := ⟨_, rfl⟩
          obtain ⟨M1, hM1⟩ : ∃ K1, K1 = M ++ [y] := ⟨_, rfl⟩
          rw [← hnw, ← hM1] at HJ
          rw [← hM1] at HN1 HN2
          have HNW := Lib.hid (show nw = M1.length by rw [hnw, hM1, HNV.out]; simp)
          have HFE2 := Lib.hid (show (nw + 1) * 104 ≤ 140737488355328 ∧ M1.length + 1 ≤ 2 * (K.length - i) from by
            have h1 := HFEW.out.1
            have h2 := HFEW.out.2
            have h3 : M1.length = M.length + 1 := by rw [hM1, List.length_append]; rfl
            exact ⟨by omega, by omega⟩)
          clear hthree hnw hM1 HNV HFEW
          have lc := HJ.out.kc.lt
          have c4 := HJ.out.kc.c 4 _ rfl
          have lx := HJ.out.xb.lt
          have d0 := HJ.out.xb.c 0 _ rfl
          have d1 := HJ.out.xb.c 1 _ rfl
          have d2 := HJ.out.xb.c 2 _ rfl
          have d3 := HJ.out.xb.c 3 _ rfl
          have d4 := HJ.out.xb.c 4 _ rfl
          have d5 := HJ.out.xb.c 5 _ rfl
          have d6 := HJ.out.xb.c 6 _ rfl
          have d7 := HJ.out.xb.c 7 _ rfl
          have d8 := HJ.out.xb.c 8 _ rfl
          have HF := Lib.hid (HJ.out.first 26)
          go_wp2_with (at_builtin; refine wp_append_z rfl _ _ rfl (gc + 1) (fun k => k ≠ gc) _ M1 rfl HF.out.1 nw HNW.out ⟨opy, ⟨vky, vny, vsy⟩, rely, coly, ny, sy, qy, leny, cy⟩ y _ _ 0 (N.heap.size + 1) rfl (one_block RawE.cells_len 26 _ ⟨opy, ⟨vky, vny, vsy⟩, rely, coly, ny, sy, qy, leny, cy⟩ rfl _ rfl) HF.out.2.1 (by have := HFE2.out.1; omega) HF.out.2.2 ?_)
          intro q4 c4_ Y hO hbY hoY h7
          have HJ2 := Lib.hid (HJ.out.put (T := 26) (fun _ _ => rfl) (fun _ => by simp) hO hoY h7)
          have hmid := HJ.out.mid hoY
          clear lc c4 lx d0 d1 d2 d3 d4 d5 d6 d7 d8 HF hO hbY hoY h7 HJ
          have lc := hmid.lt
          have c4 := hmid.c 4 _ rfl
          have z4 := hmid.fz 4
          clear hmid
          go_wp2_with fail
          go_roundw
          case rel => exact ⟨i, _, rfl, by have := HM.out; unfold wrap64; omega, by omega, ⟨⟨_, _, HJ2.out.kc, HJ2.out.o, by have := HFE2.out.2; simp; omega, HN1.out, HN2.out⟩, HJ2.out.kb, HJ2.out.b, HJ2.out.sz⟩⟩
          case measure => have := HM.out; simp [intOf] <;> (try unfold wrap64) <;> omega
end Go.Proofs.YtklgoajgchfmeaaDoor
