/- A part of the proof. -/
import Derived.Test.YtklgoajgchfmeaaDoorKl
import Derived.Test.YtklgoajgchfmeaaDoorKr
import Derived.Test.YtklgoajgchfmeaaDoorKt
import Derived.Deep.CutBlock
set_option linter.unusedVariables false
set_option linter.unusedSimpArgs false
namespace Go.Proofs.YtklgoajgchfmeaaDoor
open Go.RowKit Go.Deep Go.Maps Go.ChangeShapes Go.Shelf
set_option maxRecDepth 100000
def RNormC (x : Ex) : Prop := ∀ (w : World) (cs : List Value), ExM w x cs → rightE x = true → Calls Tryd.prog 25 #[.agg cs.toArray] w fun e w' => (∃ cs' : List Value, e = .returned (.agg cs'.toArray) ∧ ExMP w' (fun g => w.heap.size ≤ g) x.norm cs') ∧ Below w.heap.size w w'
structure RQ (w N : World) (g g1 g2 : Nat) (r0 r : RawE) (v : Value) (L : List Ex) : Prop where
  b : Below w.heap.size w N
  x1 : XB N g r0
  x2 : XB N g1 rawZ
  x3 : XB N g2 r
  gw : g = w.heap.size ∧ g1 = g + 1 ∧ g2 = g + 2
  o : OwnX N (g + 3) (fun k => g + 3 ≤ k) v L
theorem RQ.on {w N N' : World} {g g1 g2 : Nat} {r0 r : RawE} {v : Value} {L : List Ex} (h : RQ w N g g1 g2 r0 r v L) (hb : Below N.heap.size N N') : RQ w N' g g1 g2 r0 r v L :=
  ⟨h.b.trans (hb.mono h.b.size), h.x1.on hb, h.x2.on hb, h.x3.on hb, h.gw, h.o.later hb⟩
theorem RQ.cell0 {w N : World} {g g1 g2 : Nat} {r0 r : RawE} {v : Value} {L : List Ex} (h : RQ w N g g1 g2 r0 r v L) (op : Int) : RQ w (N.setCell ⟨g2, 0, none⟩ (.int .i64 op)) g g1 g2 r0 ⟨op, r.v, r.rel, r.col, r.n, r.s, r.q, r.len, r.c⟩ v L := by
  obtain ⟨b, x1, x2, x3, ⟨gw, e1, e2⟩, o⟩ := h
  have ho : Out (fun k => k = g2) N (N.setCell ⟨g2, 0, none⟩ (.int .i64 op)) := Out.set ⟨g2, 0, none⟩ _ rfl
  refine ⟨b.trans (ho.below b.size (fun k hk => by rw [hk]; omega)), x1.out ho (by omega), x2.out ho (by omega), x3.set1 (by decide) rfl, ⟨gw, e1, e2⟩, o.outs ho (fun k hk e => ?_) (fun k hk e => ?_)⟩
  · have := (o.lt k e).1; omega
  · omega
theorem RQ.put {w A Y : World} {g g1 g2 : Nat} {r0 r : RawE} {v : Value} {L K : List Ex} {q : Option Addr} {n c : Nat} (h : RQ w A g g1 g2 r0 r v L) (hO : OwnX Y (g + 3) (fun k => g + 3 ≤ k) (.slice q n c) K) (ho : Out (fun k => v.ownBlock = some k) A Y) :
    RQ w (Y.setCell ⟨g2, 8, none⟩ (.slice q n c)) g g1 g2 r0 ⟨r.op, r.v, r.rel, r.col, r.n, r.s, q, n, c⟩ (.slice q n c) K := by
  obtain ⟨b, x1, x2, x3, ⟨gw, e1, e2⟩, o⟩ := h
  have hs : Out (fun k => k = g2) Y (Y.setCell ⟨g2, 8, none⟩ (.slice q n c)) := Out.set ⟨g2, 8, none⟩ _ rfl
  have hn : ∀ k, k < g + 3 → ¬ v.ownBlock = some k := fun k hk e => by have := (o.lt k e).1; omega
  have bY : Below w.heap.size w Y := b.trans (ho.below b.size fun k e => by have := (o.lt k e).1; omega)
  refine ⟨bY.trans (hs.below bY.size (fun k hk => by rw [hk]; omega)), (x1.out ho (hn _ (by omega))).out hs (by omega), (x2.out ho (hn _ (by omega))).out hs (by omega), (x3.out ho (hn _ (by omega))).cell8 q n c, ⟨gw, e1, e2⟩, hO.outs hs (fun k hk e => ?_) (fun k hk e => ?_)⟩
  · have := (hO.lt k e).1; omega
  · omega
theorem RQ.mid {w A Y : World} {g g1 g2 : Nat} {r0 r : RawE} {v : Value} {L : List Ex} (h : RQ w A g g1 g2 r0 r v L) (ho : Out (fun k => v.ownBlock = some k) A Y) : XB Y g r0 ∧ XB Y g2 r ∧ Below w.heap.size w Y := by
  obtain ⟨b, x1, x2, x3, ⟨gw, e1, e2⟩, o⟩ := h
  have hn : ∀ k, k < g + 3 → ¬ v.ownBlock = some k := fun k hk e => by have := (o.lt k e).1; omega
  exact ⟨x1.out ho (hn _ (by omega)), x3.out ho (hn _ (by omega)), b.trans (ho.below b.size fun k e => by have := (o.lt k e).1; omega)⟩
theorem RQ.start {w W1 W2 W3 : World} {T : TypeId} {g g1 g2 : Nat} {r r' : RawE} (h1 : w.alloc (.cells r.cells.toArray T) = W1) (h2 : W1.alloc (.cells rawZ.cells.toArray T) = W2) (h3 : W2.alloc (.cells r'.cells.toArray T) = W3) (hg : g = w.heap.size) (hg1 : g1 = W1.heap.size) (hg2 : g2 = W2.heap.size) :
    RQ w W3 g g1 g2 r r' (.slice none 0 0) [] := by
  have z1 : W1.heap.size = w.heap.size + 1 := by rw [← h1]; simp
  have z2 : W2.heap.size = W1.heap.size + 1 := by rw [← h2]; simp
  have z3 : W3.heap.size = W2.heap.size + 1 := by rw [← h3]; simp
  have b1 : Below w.heap.size w W1 := by rw [← h1]; exact ext_alloc (ext_refl _) _
  have b2 : Below W1.heap.size W1 W2 := by rw [← h2]; exact ext_alloc (ext_refl _) _
  have b3 : Below W2.heap.size W2 W3 := by rw [← h3]; exact ext_alloc (ext_refl _) _
  have x1 : XB W1 g r := by rw [← h1, hg]; exact XB.new w r T
  have x2 : XB W2 g1 rawZ := by rw [← h2, hg1]; exact XB.new W1 rawZ T
  have x3 : XB W3 g2 r' := by rw [← h3, hg2]; exact XB.new W2 r' T
  exact ⟨b1.trans ((b2.trans (b3.mono b2.size)).mono b1.size), (x1.on b2).on b3, x2.on b3, x3, ⟨hg, by omega, by omega⟩, OwnX.nil _ _ _⟩
structure RF (w N : World) (g1 g2 : Nat) (r : RawE) (L : List Ex) : Prop where
  b : Below w.heap.size w N
  x2 : XB N g1 rawZ
  x3 : XB N g2 r
  gw : w.heap.size < g1 ∧ g1 < g2
  len : r.len = L.length ∧ r.len ≤ r.c
  l : ExLP N (fun k => w.heap.size ≤ k ∧ k ≠ g1) r.q 0 L
theorem RQ.fin {w N : World} {g g1 g2 : Nat} {r0 r : RawE} {v : Value} {L : List Ex} (h : RQ w N g g1 g2 r0 r v L) (hv : v = .slice r.q r.len r.c) (hl : r.len = L.length) : RF w N g1 g2 r L := by
  obtain ⟨b, x1, x2, x3, ⟨gw, e1, e2⟩, o⟩ := h
  obtain ⟨q', c', e', h1, -, h3⟩ := o.toP (Q := fun k => w.heap.size ≤ k ∧ k ≠ g1) (fun k hk _ => ⟨by omega, by omega⟩) (fun k hk _ => ⟨by omega, by omega⟩)
  rw [hv] at e'
  simp only [Value.slice.injEq] at e'
  obtain ⟨eq, el, ec⟩ := e'
  exact ⟨b, x2, x3, ⟨by omega, by omega⟩, ⟨hl, by omega⟩, by rw [eq]; exact h3⟩
theorem RF.done {w N : World} {g1 g2 : Nat} {op : Int} {v0 : Val} {rel col n : Int} {s : ByteArray} {q : Option Addr} {len c : Nat} {L : List Ex} (h : RF w N g1 g2 ⟨op, v0, rel, col, n, s, q, len, c⟩ L) (hv : okVal v0) :
    Below w.heap.size w (setE N g1 0 ⟨op, v0, rel, col, n, s, q, len, c⟩) ∧ XB (setE N g1 0 ⟨op, v0, rel, col, n, s, q, len, c⟩) g1 ⟨op, v0, rel, col, n, s, q, len, c⟩ ∧
    ExMP (setE N g1 0 ⟨op, v0, rel, col, n, s, q, len, c⟩) (fun k => w.heap.size ≤ k) (.mk op v0 rel col n s L) (exCells op v0 rel col n s q len c) := by
  obtain ⟨b, x2, x3, gw, ⟨hl, hc⟩, l⟩ := h
  have ho := setE_out N g1 0 ⟨op, v0, rel, col, n, s, q, len, c⟩
  refine ⟨b.trans (ho.below b.size (fun k hk => by rw [hk]; omega)), XB.setAll x2 _, ?_⟩
  simp only at hl hc l
  subst hl
  exact ExMP.iff.2 ⟨hv, q, c, rfl, hc, ExLP.on ho.size (fun k hk hkn => ho.block k hkn hk.2) (fun k hk _ => hk.1) _ _ _ l⟩
theorem RQ.two {w V : World} {g g1 g2 : Nat} {r0 : RawE} {op : Int} {v0 : Val} {rel col n : Int} {s : ByteArray} {q : Option Addr} {len c : Nat} {v : Value} {L : List Ex} {ya yb : Ex} {ra rb : RawE} {T : TypeId} (h : RQ w V g g1 g2 r0 ⟨op, v0, rel, col, n, s, q, len, c⟩ v L) (ha : ExMP V (fun k => g + 3 ≤ k) ya ra.cells) (hb : ExMP V (fun k => g + 3 ≤ k) yb rb.cells) :
    RF w ((V.setCell ⟨g2, 8, none⟩ (.slice (some ⟨V.heap.size, 0, none⟩) 2 2)).alloc (.cells (ra.cells ++ rb.cells).toArray T)) g1 g2 ⟨op, v0, rel, col, n, s, some ⟨V.heap.size, 0, none⟩, 2, 2⟩ [ya, yb] := by
  obtain ⟨b, x1, x2, x3, ⟨gw, e1, e2⟩, o⟩ := h
  have hs : Out (fun k => k = g2) V (V.setCell ⟨g2, 8, none⟩ (.slice (some ⟨V.heap.size, 0, none⟩) 2 2)) := Out.set ⟨g2, 8, none⟩ _ rfl
  have y3 := x3.cell8 (some ⟨V.heap.size, 0, none⟩) 2 2
  have y2 := x2.out hs (by omega)
  have bs := b.trans (hs.below b.size (fun k hk => by rw [hk]; omega))
  have hz : (V.setCell ⟨g2, 8, none⟩ (.slice (some ⟨V.heap.size, 0, none⟩) 2 2)).heap.size = V.heap.size := World.size_setCell _ _ _
  have ha' : ExMP (V.setCell ⟨g2, 8, none⟩ (.slice (some ⟨V.heap.size, 0, none⟩) 2 2)) (fun k => g + 3 ≤ k) ya ra.cells := ExMP.on hs.size (fun k hk hkn => hs.block k hkn (by have hk : g + 3 ≤ k := hk; show ¬ k = g2; omega)) (fun k hk _ => hk) _ _ ha
  have hb' : ExMP (V.setCell ⟨g2, 8, none⟩ (.slice (some ⟨V.heap.size, 0, none⟩) 2 2)) (fun k => g + 3 ≤ k) yb rb.cells := ExMP.on hs.size (fun k hk hkn => hs.block k hkn (by have hk : g + 3 ≤ k := hk; show ¬ k = g2; omega)) (fun k hk _ => hk) _ _ hb
  have hl := x3.lt
  have hbs := b.size
  generalize V.setCell ⟨g2, 8, none⟩ (.slice (some ⟨V.heap.size, 0, none⟩) 2 2) = N at y3 y2 bs hz ha' hb'
  rw [← hz] at y3 ⊢
  have h0 : Below N.heap.size N (N.alloc (.cells (ra.cells ++ rb.cells).toArray T)) := ext_alloc (ext_refl _) _
  have up : ∀ (y : Ex) (cs : List Value), ExMP N (fun k => g + 3 ≤ k) y cs → ExMP (N.alloc (.cells (ra.cells ++ rb.cells).toArray T)) (fun k => w.heap.size ≤ k ∧ k ≠ g1) y cs := fun y cs hy => ExMP.on h0.size (fun k _ hk => h0.block k hk) (fun k hk _ => by have hk : g + 3 ≤ k := hk; exact ⟨by omega, by omega⟩) _ _ hy
  refine ⟨bs.trans (h0.mono bs.size), y2.on h0, y3.on h0, ⟨by omega, by omega⟩, ⟨rfl, Nat.le_refl _⟩, ?_⟩
  refine ExLP.two (up _ _ ha') (up _ _ hb') (by simp) ⟨bs.size, by omega⟩ fun k u hu => ?_
  rw [Lib.cell_of_heap (heap_alloc_new N _), List.getElem?_toArray]
  exact hu
theorem step_callR {w : World} {ops : Array Oper} {o : Oper} {a : Act} {K : Act → World → Prop} {Q : Exit → Act → World → Prop} {R : Prop} (hgd : o.guard = none) (f : Nat) (x : Operand) (ts : Array TypeId) (ho : o.op = .call { callee := .value (.func f), args := #[x], argTypes := ts }) (u : Value) (hx : a.eval x = u)
    (hcf : (callFunc f #[u]).run Tryd.prog w = .ok (.enter f #[u]) w) (h : Calls Tryd.prog f #[u] w (fun e w' => ∃ v, e = .returned v ∧ K (a.put o.dst v) w')) : if Region.wanted o (yielded ops a.tmps) = true then Oper.wp Tryd.prog o a w K Q else R := by
  have hw : Region.wanted o (yielded ops a.tmps) = true := by simp [Region.wanted, hgd]
  rw [if_pos hw]
  unfold Oper.wp execOp
  simp only [ho, resolve, invoke, Sem.run_bind, List.map_toArray, List.map_cons, List.map_nil, hx]
  have e : a.eval (.func f) = .func (.func f) #[] #[] := rfl
  rw [e]
  have e2 : (Deferred.ofValue (.func (.func f) #[] #[]) #[u]).run Tryd.prog w = .ok ⟨.fn (.func f) #[], #[u]⟩ w := by
    simp [Deferred.ofValue, go_sem]
  simp only [e2, Result.andThen_ok, Array.append_empty]
  rw [hcf]
  refine h.mono ?_
  rintro e w' ⟨v, rfl, hk⟩
  exact hk
theorem Tryd.enterRNormal (vals : Array Value) (w : World) : (callFunc 25 vals).run Tryd.prog w = .ok (.enter 25 vals) w := by kernel_rfl
set_option maxHeartbeats 8000000 in
theorem rnormC_step (op : Int) (v : Val) (rel col n : Int) (s : ByteArray) (l : List Ex) (hlm : l.length ≤ 2) (IH : ∀ y ∈ l, RNormC y) : RNormC (.mk op v rel col n s l) := by
  intro w cs hx hr
  have HR := Lib.hid (right_op hr)
  have HI := Lib.hid IH
  rw [ExM.iff] at hx
  obtain ⟨hv, q, c, rfl, -, hl⟩ := hx
  have HV := Lib.hid hv
  have HL := Lib.hid hl
  obtain ⟨len, hlen⟩ : ∃ len, len = l.length := ⟨_, rfl⟩
  rw [← hlen] at hlm ⊢
  have HLEN := Lib.hid hlen
  obtain ⟨W1, h1⟩ : ∃ W, w.alloc (.cells (RawE.cells ⟨op, v, rel, col, n, s, q, len, c⟩).toArray 26) = W := ⟨_, rfl⟩
  obtain ⟨W2, h2⟩ : ∃ W, W1.alloc (.cells rawZ.cells.toArray 26) = W := ⟨_, rfl⟩
  obtain ⟨W3, h3⟩ : ∃ W, W2.alloc (.cells (RawE.cells ⟨op, v, rel, col, n, s, none, 0, 0⟩).toArray 26) = W := ⟨_, rfl⟩
  have hQ := RQ.start h1 h2 h3 rfl rfl rfl
  have HW := Lib.hid (show ((w.alloc (.cells (RawE.cells ⟨op, v, rel, col, n, s, q, len, c⟩).toArray 26)).alloc (.cells rawZ.cells.toArray 26)).alloc (.cells (RawE.cells ⟨op, v, rel, col, n, s, none, 0, 0⟩).toArray 26) = W3 by rw [h1, h2, h3])
  have HZ := Lib.hid (show W1.heap.size = w.heap.size + 1 ∧ W2.heap.size = w.heap.size + 1 + 1 by rw [← h2, ← h1]; simp)
  have HQ := Lib.hid hQ
  clear hQ hv hl hr IH hlen h1 h2 h3
  go_enter Tryd.func25, Tryd.ntmps25
  go_upto_region 3 with fail
  change Code.wp _ _ _ _ (((w.alloc (.cells (RawE.cells ⟨op, v, rel, col, n, s, q, len, c⟩).toArray 26)).alloc (.cells rawZ.cells.toArray 26)).alloc (.cells (RawE.cells ⟨op, v, rel, col, n, s, none, 0, 0⟩).toArray 26))
  rw [HW.out]
  obtain ⟨z1, z2⟩ := HZ.out
  rw [z1, z2] at HQ
  obtain ⟨g, hg⟩ : ∃ g, g = w.heap.size := ⟨_, rfl⟩
  obtain ⟨g1, hg1⟩ : ∃ g, g = w.heap.size + 1 := ⟨_, rfl⟩
  obtain ⟨g2, hg2⟩ : ∃ g, g = w.heap.size + 1 + 1 := ⟨_, rfl⟩
  rw [← hg2, ← hg1, ← hg] at HQ
  rw [← hg2, ← hg1, ← hg]
  clear HW HZ z1 z2 hg hg1 hg2
  go_wp2_with fail
  go_loopw [4] (fun v4 wr => ∃ (i : Nat) (qv : Option Addr) (cv : Nat), v4 = .int .i64 i ∧ i ≤ len ∧ Hid (RQ w wr g g1 g2 ⟨op, v, rel, col, n, s, q, len, c⟩ ⟨op, v, rel, col, n, s, qv, i, cv⟩ (.slice qv i cv) (normL (l.take i)))) (fun v4 _ => len - (intOf v4).toNat)
  case atStart => exact ⟨0, none, 0, rfl, Nat.zero_le _, by rw [List.take_zero, normL]; exact HQ.out⟩
  case round =>
    obtain ⟨i, qv, cv, rfl, hi, HH⟩ := hrel
    obtain ⟨V, hV⟩ : ∃ V, V = wr := ⟨_, rfl⟩
    rw [← hV] at HH
    rw [← hV]
    have HQ := Lib.hid HH.out
    clear hV HH
    have lt := HQ.out.x1.lt
    have c8 := HQ.out.x1.c 8 _ rfl
    have lt2 := HQ.out.x3.lt
    simp only at c8
    by_cases hlt : i < len
    · obtain ⟨y, hy⟩ : ∃ y, l[i]? = some y := ⟨_, List.getElem?_eq_getElem (by rw [← HLEN.out]; exact hlt)⟩
      have hl_ := ExL.at_ HL.out hy
      obtain ⟨g0, off0, cs0, hq0, hg0, hx0, hcell⟩ := hl_
      subst hq0
      have HX0 := Lib.hid hx0
      have HG0 := Lib.hid hg0
      have HIY := Lib.hid (HI.out y (List.mem_of_getElem? hy))
      have HRY := Lib.hid (HR.out.2 y (List.mem_of_getElem? hy))
      have HT := Lib.hid (show normL (l.take (i + 1)) = normL (l.take i) ++ [y.norm] by rw [normL_map, normL_map, take_snoc hy, List.map_append]; rfl)
      have HTL := Lib.hid (show (normL (l.take i)).length = i by rw [normL_map, List.length_map, List.length_take]; have := HLEN.out; omega)
      obtain ⟨M, hM⟩ : ∃ M, M = normL (l.take i) := ⟨_, rfl⟩
      rw [← hM] at HT HTL HQ
      clear hy hM hx0
      obtain ⟨op1, v1, rel1, col1, n1, s1, l1⟩ := y
      have hx0 := HX0.out
      rw [ExM.iff] at hx0
      obtain ⟨-, qq0, cc0, rfl, -, -⟩ := hx0
      have hS : ∀ W' : World, XB W' g ⟨op, v, rel, col, n, s, some ⟨g0, off0, none⟩, len, c⟩ → Below w.heap.size w W' → (fun W' => W'.cell? ⟨g, 8, none⟩ = some (.slice (some ⟨g0, off0, none⟩) len c) ∧ W'.cell? ⟨g0, off0 + i * 9, none⟩ = some (.int .i64 op1) ∧ W'.cell? ⟨g0, off0 + i * 9 + 1, none⟩ = some (.int .i64 v1.k) ∧ W'.cell? ⟨g0, off0 + i * 9 + 2, none⟩ = some (.int .i64 v1.n) ∧ W'.cell? ⟨g0, off0 + i * 9 + 3, none⟩ = some (.string v1.s) ∧ W'.cell? ⟨g0, off0 + i * 9 + 4, none⟩ = some (.int .i64 rel1) ∧ W'.cell? ⟨g0, off0 + i * 9 + 5, none⟩ = some (.int .i64 col1) ∧ W'.cell? ⟨g0, off0 + i * 9 + 6, none⟩ = some (.int .i64 n1) ∧ W'.cell? ⟨g0, off0 + i * 9 + 7, none⟩ = some (.string s1) ∧ W'.cell? ⟨g0, off0 + i * 9 + 8, none⟩ = some (.slice qq0 l1.length cc0)) W' := fun W' q1 qb => by
        have e := fun k u hu => (qb.cell (p := ⟨g0, off0 + (0 + i) * 9 + k, none⟩) hg0).trans (hcell k u hu)
        have e0 := e 0 _ rfl
        have e1 := e 1 _ rfl
        have e2 := e 2 _ rfl
        have e3 := e 3 _ rfl
        have e4 := e 4 _ rfl
        have e5 := e 5 _ rfl
        have e6 := e 6 _ rfl
        have e7 := e 7 _ rfl
        have e8 := e 8 _ rfl
        simp only [Nat.zero_add, Nat.add_zero] at e0 e1 e2 e3 e4 e5 e6 e7 e8
        exact ⟨q1.c 8 _ rfl, e0, e1, e2, e3, e4, e5, e6, e7, e8⟩
      have HS := Lib.hid hS
      clear hS hcell hg0
      go_upto_region 6 with fail
      have bd : Below V.heap.size V V.drew := ext_drew (ext_refl _)
      have HQD := Lib.hid (HQ.out.on bd)
      have SA := Lib.hid (HS.out _ HQD.out.x1 HQD.out.b)
      have d8 := HQD.out.x3.c 8 _ rfl
      simp only at d8
      have HG3 := Lib.hid (show g + 3 ≤ V.drew.heap.size by have h1 := HQD.out.x3.lt; have h2 := HQD.out.gw; omega)
      clear bd HQ c8 lt lt2
      obtain ⟨Z, hZ⟩ : ∃ Z, Z = (Ex.mk op1 v1 rel1 col1 n1 s1 l1).norm := ⟨_, rfl⟩
      have HNC := Lib.hid (HIY.out V.drew _ (ExM.ext HQD.out.b _ _ HX0.out) HRY.out)
      rw [← hZ] at HNC HT
      clear hZ HX0 HIY
      obtain ⟨s8, t0, t1, t2, t3, t4, t5, t6, t7, t8⟩ := SA.out
      have ltd := HQD.out.x3.lt
      clear SA
      go_region_law (first
        | (refine step_callR rfl 25 _ _ rfl (.agg #[.int .i64 op1, .int .i64 v1.k, .int .i64 v1.n, .string v1.s, .int .i64 rel1, .int .i64 col1, .int .i64 n1, .string s1, .slice qq0 l1.length cc0]) rfl (Tryd.enterRNormal _ _) ?_; with_reducible refine HNC.out.mono ?_; rintro e Y ⟨⟨cs', rfl, hP⟩, hbY⟩; refine ⟨_, rfl, ?_⟩; have HP := Lib.hid hP; have HQY := Lib.hid (HQD.out.on hbY); have y8 := HQY.out.x3.c 8 _ rfl; have ylt := HQY.out.x3.lt; simp only at y8; obtain ⟨r', rfl⟩ := hP.raw; clear hP hbY; obtain ⟨opz, ⟨vkz, vnz, vsz⟩, relz, colz, nz, sz, qz, lenz, cz⟩ := r'; have HQA := Lib.hid (HQY.out.on (ext_alloc (ext_refl Y) (.cells (exCells opz ⟨vkz, vnz, vsz⟩ relz colz nz sz qz lenz cz).toArray 26))); have HA3 := Lib.hid (show g + 3 ≤ (Y.alloc (.cells (exCells opz ⟨vkz, vnz, vsz⟩ relz colz nz sz qz lenz cz).toArray 26)).heap.size by have h1 := HQA.out.x3.lt; have h2 := HQA.out.gw; omega))
        | (refine step_append_x rfl _ _ rfl (g + 3) (fun k => g + 3 ≤ k) (.slice qv i cv) M rfl HQA.out.o i HTL.out.symm ⟨opz, ⟨vkz, vnz, vsz⟩, relz, colz, nz, sz, qz, lenz, cz⟩ Z _ _ 0 (Y.heap.size + 1) rfl (one_block RawE.cells_len 26 _ ⟨opz, ⟨vkz, vnz, vsz⟩, relz, colz, nz, sz, qz, lenz, cz⟩ rfl _ rfl) (renum_k1 HG3.out HQD.out.o HP.out) (by omega) HA3.out ?_; intro q3 c3 Q hO hbQ hoQ; rw [← HT.out] at hO; obtain ⟨m1, m3, mb⟩ := HQA.out.mid hoQ; have HN := Lib.hid (HQA.out.put hO hoQ); have fz := m3.fz 8; have lz := m3.lt; have z8 := m3.c 8 _ rfl; simp only at z8; clear hO hbQ hoQ m1 m3 mb))
      all_goals
        go_wp2_with fail
        go_roundw
        case rel => exact ⟨i + 1, q3, c3, by go_num, hlt, HN.out⟩
        case measure => simp [intOf] <;> omega
    · obtain rfl : i = len := by omega
      have HQ := Lib.hid (show RQ w V g g1 g2 ⟨op, v, rel, col, n, s, q, i, c⟩ ⟨op, v, rel, col, n, s, qv, i, cv⟩ (.slice qv i cv) (normL l) by
        have h := HQ.out
        rw [show i = l.length from HLEN.out, List.take_length] at h
        rw [← HLEN.out] at h
        exact h)
      have HRR := Lib.hid HR.out.2
      have HLL := Lib.hid (show i = (normL l).length by rw [normL_map, List.length_map]; exact HLEN.out)
      have k00 := HQ.out.x3.c 0 _ rfl
      simp only at k00
      clear HI HL hi hlt hlm
      by_cases hop : commutes op = true ∨ op = 13 ∨ op = 14
      · have h2 := head_two8' HR.out.1 hop
        obtain ⟨a, b, rfl⟩ : ∃ a b, l = [a, b] := by
          match l, h2 with
          | [a, b], _ => exact ⟨a, b, rfl⟩
        obtain rfl : i = 2 := HLEN.out
        rw [show normL [a, b] = [a.norm, b.norm] by rw [normL, normL, normL]] at HQ
        clear h2
        have h8 := HQ.out.x3.lt
        have k0x := HQ.out.x3.c 0 _ rfl
        simp only at k0x
        go_upto_block 2 with fail
        clear lt c8 h8 k0x
        go_cut [5] (fun v5 wc => ∃ (turn : Bool) (op2 : Int), v5 = .bool turn ∧ Hid (RQ w wc g g1 g2 ⟨op, v, rel, col, n, s, q, 2, c⟩ ⟨op2, v, rel, col, n, s, qv, 2, cv⟩ (.slice qv 2 cv) [a.norm, b.norm]) ∧ Hid ((Ex.mk op v rel col n s [a, b]).norm = .mk op2 v rel col n s (if turn = true then [b.norm, a.norm] else [a.norm, b.norm])))
        case first =>
          rcases hop with hc | h | h
          · have hc' : op = 4 ∨ op = 6 ∨ op = 9 ∨ op = 10 ∨ op = 15 ∨ op = 16 := by simpa [commutes, or_assoc] using hc
            have n13 : op ≠ 13 := by omega
            have n14 : op ≠ 14 := by omega
            have b13 : (op == 13) = false := beq_eq_false_iff_ne.2 n13
            have b14 : (op == 14) = false := beq_eq_false_iff_ne.2 n14
            have HNRM := Lib.hid (show (Ex.mk op v rel col n s [a, b]).norm = .mk op v rel col n s (if Op.bytesLess b.norm.print a.norm.print = true then [b.norm, a.norm] else [a.norm, b.norm]) by
              rw [Ex.norm]
              unfold fixE
              rw [if_neg n13, if_neg n14, hc, normL, normL, normL, Bool.true_and]
              show (if Op.bytesLess b.norm.print a.norm.print = true then _ else _) = _
              split <;> rfl)
            have HBL := Lib.hid (show Op.bytesLess (bsB b.norm.print).toList (bsB a.norm.print).toList = Op.bytesLess b.norm.print a.norm.print by rw [ByteArray.toList_eq, ByteArray.toList_eq])
            have hra := rightE_parts (HRR.out a (by simp))
            have hrb := rightE_parts (HRR.out b (by simp))
            have lt2 := HQ.out.x3.lt
            obtain ⟨gl, cl', r0, r1, e2, hbg, hgl, hE, hp0, hp1⟩ := OwnX.two HQ.out.o
            simp only [Value.slice.injEq, true_and] at e2
            first | (obtain ⟨rfl, rfl⟩ := e2) | (obtain ⟨e2, rfl⟩ := e2; obtain rfl := (Addr.mk.inj (Option.some.inj e2)).1)
            have e0 := fun k u hu => OwnF.cellAt RawE.cells_len hE (j := 0) (x := r0) rfl (k := k) (u := u) hu
            have e1 := fun k u hu => OwnF.cellAt RawE.cells_len hE (j := 1) (x := r1) rfl (k := k) (u := u) hu
            obtain ⟨op0, ⟨vk0, vn0, vs0⟩, rel0, col0, nn0, s0, q0, len0, cc0⟩ := r0
            obtain ⟨op1, ⟨vk1, vn1, vs1⟩, rel1, col1, nn1, s1, q1, len1, cc1⟩ := r1
            have f0 := (e0 0 _ rfl).1
            have f1 := (e0 1 _ rfl).1
            have f2 := (e0 2 _ rfl).1
            have f3 := (e0 3 _ rfl).1
            have f4 := (e0 4 _ rfl).1
            have f5 := (e0 5 _ rfl).1
            have f6 := (e0 6 _ rfl).1
            have f7 := (e0 7 _ rfl).1
            have f8 := (e0 8 _ rfl).1
            have h0 := (e1 0 _ rfl).1
            have h1 := (e1 1 _ rfl).1
            have h2 := (e1 2 _ rfl).1
            have h3 := (e1 3 _ rfl).1
            have h4 := (e1 4 _ rfl).1
            have h5 := (e1 5 _ rfl).1
            have h6 := (e1 6 _ rfl).1
            have h7 := (e1 7 _ rfl).1
            have h8 := (e1 8 _ rfl).1
            simp only [Nat.zero_mul, Nat.one_mul, Nat.zero_add, Nat.add_zero, Nat.reduceAdd] at f0 f1 f2 f3 f4 f5 f6 f7 f8 h0 h1 h2 h3 h4 h5 h6 h7 h8
            have HP0 := Lib.hid (ExMP.on (Q := fun k => g + 3 ≤ k) (Nat.le_refl _) (fun _ _ _ => rfl) (fun k hk _ => hk.1) _ _ hp0)
            have HP1 := Lib.hid (ExMP.on (Q := fun k => g + 3 ≤ k) (Nat.le_refl _) (fun _ _ _ => rfl) (fun k hk _ => hk.1) _ _ hp1)
            clear e0 e1 hE hp0 hp1
            have HT0 := Lib.hid (fun (x : After V) => calls_after (rprint_any _ a.norm (Nat.le_refl _) (by rw [(norm_same a).1]; exact hra.1) (by rw [(norm_same a).2.2.1]; exact hra.2.2) _ x.W (ExM.ext x.below _ _ (ExMP.toM _ _ HP0.out))))
            have HT1 := Lib.hid (fun (x : After V) => calls_after (rprint_any _ b.norm (Nat.le_refl _) (by rw [(norm_same b).1]; exact hrb.1) (by rw [(norm_same b).2.2.1]; exact hrb.2.2) _ x.W (ExM.ext x.below _ _ (ExMP.toM _ _ HP1.out))))
            obtain ⟨P0, hP0⟩ : ∃ P, P = bsB a.norm.print := ⟨_, rfl⟩
            obtain ⟨P1, hP1⟩ : ∃ P, P = bsB b.norm.print := ⟨_, rfl⟩
            rw [← hP0] at HT0 HBL
            rw [← hP1] at HT1 HBL
            have n8 := HQ.out.x3.c 8 _ rfl
            simp only at n8
            have rc := fun (x : After V) => (x.cell g2 8 lt2).trans n8
            have rf0 := fun (x : After V) => (x.cell gl 0 hgl).trans f0
            have rf1 := fun (x : After V) => (x.cell gl 1 hgl).trans f1
            have rf2 := fun (x : After V) => (x.cell gl 2 hgl).trans f2
            have rf3 := fun (x : After V) => (x.cell gl 3 hgl).trans f3
            have rf4 := fun (x : After V) => (x.cell gl 4 hgl).trans f4
            have rf5 := fun (x : After V) => (x.cell gl 5 hgl).trans f5
            have rf6 := fun (x : After V) => (x.cell gl 6 hgl).trans f6
            have rf7 := fun (x : After V) => (x.cell gl 7 hgl).trans f7
            have rf8 := fun (x : After V) => (x.cell gl 8 hgl).trans f8
            have rh0 := fun (x : After V) => (x.cell gl 9 hgl).trans h0
            have rh1 := fun (x : After V) => (x.cell gl 10 hgl).trans h1
            have rh2 := fun (x : After V) => (x.cell gl 11 hgl).trans h2
            have rh3 := fun (x : After V) => (x.cell gl 12 hgl).trans h3
            have rh4 := fun (x : After V) => (x.cell gl 13 hgl).trans h4
            have rh5 := fun (x : After V) => (x.cell gl 14 hgl).trans h5
            have rh6 := fun (x : After V) => (x.cell gl 15 hgl).trans h6
            have rh7 := fun (x : After V) => (x.cell gl 16 hgl).trans h7
            have rh8 := fun (x : After V) => (x.cell gl 17 hgl).trans h8
            clear hP0 hP1 hra hrb n8 f0 f1 f2 f3 f4 f5 f6 f7 f8 h0 h1 h2 h3 h4 h5 h6 h7 h8 n13 n14 hc HRR HR HLL HLEN HP0 HP1 hbg hgl
            have is := After.some V
            rcases hc' with h | h | h | h | h | h
            all_goals
              first | (have b4 : (op == 4) = true := by rw [h]; rfl) | (have b4 : (op == 4) = false := by rw [h]; rfl)
              first | (have b6 : (op == 6) = true := by rw [h]; rfl) | (have b6 : (op == 6) = false := by rw [h]; rfl)
              first | (have b9 : (op == 9) = true := by rw [h]; rfl) | (have b9 : (op == 9) = false := by rw [h]; rfl)
              first | (have b10 : (op == 10) = true := by rw [h]; rfl) | (have b10 : (op == 10) = false := by rw [h]; rfl)
              first | (have b15 : (op == 15) = true := by rw [h]; rfl) | (have b15 : (op == 15) = false := by rw [h]; rfl)
              first | (have b16 : (op == 16) = true := by rw [h]; rfl) | (have b16 : (op == 16) = false := by rw [h]; rfl)
              clear h
              go_upto_region 21 with fail
              clear b13 b14 b4 b6 b9 b10 b15 b16 k00
              refine wp_region_after (by kernel_rfl) (by kernel_rfl) ?_
              repeat (quiet_step ((go_at_call 9; first | with_reducible exact HT0.out _ | with_reducible exact HT1.out _)))
              refine wpQuiet_nil ?_
              intro N hw
              obtain ⟨⟨N, hbq⟩, rfl⟩ := hw
              have HQ := Lib.hid (HQ.out.on hbq)
              clear lt2 rc rf0 rf1 rf2 rf3 rf4 rf5 rf6 rf7 rf8 rh0 rh1 rh2 rh3 rh4 rh5 rh6 rh7 rh8 HT0 HT1 hbq is
              rw [HBL.out]
              go_wp2_with fail
              go_meet
              exact ⟨_, op, rfl, HQ.out, HNRM.out⟩
          · subst h
            have HNRM := Lib.hid (show (Ex.mk 13 v rel col n s [a, b]).norm = .mk 11 v rel col n s (if (true : Bool) = true then [b.norm, a.norm] else [a.norm, b.norm]) by
              rw [if_pos rfl, Ex.norm]
              unfold fixE
              rw [if_pos rfl, normL, normL, normL]
              rfl)
            have lt2 := HQ.out.x3.lt
            have fz2 := HQ.out.x3.fz 0
            have HQ2 := Lib.hid (HQ.out.cell0 11)
            go_wp2_with fail
            go_meet
            exact ⟨true, 11, rfl, HQ2.out, HNRM.out⟩
          · subst h
            have HNRM := Lib.hid (show (Ex.mk 14 v rel col n s [a, b]).norm = .mk 12 v rel col n s (if (true : Bool) = true then [b.norm, a.norm] else [a.norm, b.norm]) by
              rw [if_pos rfl, Ex.norm]
              unfold fixE
              rw [if_neg (by decide), if_pos rfl, normL, normL, normL]
              rfl)
            have lt2 := HQ.out.x3.lt
            have fz2 := HQ.out.x3.fz 0
            have HQ2 := Lib.hid (HQ.out.cell0 12)
            go_wp2_with fail
            go_meet
            exact ⟨true, 12, rfl, HQ2.out, HNRM.out⟩
        case rest =>
          obtain ⟨turn, op2, rfl, HQ2, HNRM⟩ := hcut
          obtain ⟨N, hN⟩ : ∃ W, W = wc := ⟨_, rfl⟩
          rw [← hN] at HQ2
          rw [← hN]
          have HQ := Lib.hid HQ2.out
          clear hN HQ2 HRR HR HLL HLEN k00 hop
          cases turn with
          | false =>
            rw [if_neg (by decide)] at HNRM
            obtain ⟨gl, hgl⟩ : ∃ x, x = qv := ⟨_, rfl⟩
            have HF := Lib.hid (HQ.out.fin rfl rfl)
            clear HQ hgl
            go_upto_region 24 with fail
            have HD := Lib.hid (HF.out.done HV.out)
            have w0 := HF.out.x3.c 0 _ rfl
            have w1 := HF.out.x3.c 1 _ rfl
            have w2 := HF.out.x3.c 2 _ rfl
            have w3 := HF.out.x3.c 3 _ rfl
            have w4 := HF.out.x3.c 4 _ rfl
            have w5 := HF.out.x3.c 5 _ rfl
            have w6 := HF.out.x3.c 6 _ rfl
            have w7 := HF.out.x3.c 7 _ rfl
            have w8 := HF.out.x3.c 8 _ rfl
            have lw := HF.out.x3.lt
            have d0 := HF.out.x2.c 0 _ rfl
            have d1 := HF.out.x2.c 1 _ rfl
            have d2 := HF.out.x2.c 2 _ rfl
            have d3 := HF.out.x2.c 3 _ rfl
            have d4 := HF.out.x2.c 4 _ rfl
            have d5 := HF.out.x2.c 5 _ rfl
            have d6 := HF.out.x2.c 6 _ rfl
            have d7 := HF.out.x2.c 7 _ rfl
            have d8 := HF.out.x2.c 8 _ rfl
            have ld := HF.out.x2.lt
            have fd := HF.out.x2.fz
            simp only at w0 w1 w2 w3 w4 w5 w6 w7 w8
            clear HF
            go_wp2_with fail
            change bodyPost _ _ _ _ _ (setE N g1 0 ⟨op2, v, rel, col, n, s, qv, 2, cv⟩)
            clear w0 w1 w2 w3 w4 w5 w6 w7 w8 d0 d1 d2 d3 d4 d5 d6 d7 d8 lw ld fd
            obtain ⟨hbQ, ⟨-, cQ, -⟩, hP⟩ := HD.out
            generalize setE N g1 0 ⟨op2, v, rel, col, n, s, qv, 2, cv⟩ = QQ at hbQ cQ hP ⊢
            have q0 := cQ 0 _ rfl
            have q1 := cQ 1 _ rfl
            have q2 := cQ 2 _ rfl
            have q3 := cQ 3 _ rfl
            have q4 := cQ 4 _ rfl
            have q5 := cQ 5 _ rfl
            have q6 := cQ 6 _ rfl
            have q7 := cQ 7 _ rfl
            have q8 := cQ 8 _ rfl
            clear cQ HD
            simp only at q0 q1 q2 q3 q4 q5 q6 q7 q8
            refine bodyPost_ret (v := .agg (exCells op2 v rel col n s qv 2 cv).toArray) (by simp [results, Tryd.results25, go_sem, q0, q1, q2, q3, q4, q5, q6, q7, q8]) rfl ⟨⟨_, rfl, ?_⟩, hbQ⟩
            rw [HNRM.out]
            exact hP
          | true =>
            rw [if_pos rfl] at HNRM
            go_upto_region 23 with fail
            obtain ⟨gl, cl', r0, r1, e2, hbg, hgl, hE, hp0, hp1⟩ := OwnX.two HQ.out.o
            simp only [Value.slice.injEq, true_and] at e2
            first | (obtain ⟨rfl, rfl⟩ := e2) | (obtain ⟨e2, rfl⟩ := e2; obtain rfl := (Addr.mk.inj (Option.some.inj e2)).1)
            have e0 := fun k u hu => OwnF.cellAt RawE.cells_len hE (j := 0) (x := r0) rfl (k := k) (u := u) hu
            have e1 := fun k u hu => OwnF.cellAt RawE.cells_len hE (j := 1) (x := r1) rfl (k := k) (u := u) hu
            obtain ⟨op0, ⟨vk0, vn0, vs0⟩, rel0, col0, nn0, s0, q0, len0, cc0⟩ := r0
            obtain ⟨op1, ⟨vk1, vn1, vs1⟩, rel1, col1, nn1, s1, q1, len1, cc1⟩ := r1
            have f0 := (e0 0 _ rfl).1
            have f1 := (e0 1 _ rfl).1
            have f2 := (e0 2 _ rfl).1
            have f3 := (e0 3 _ rfl).1
            have f4 := (e0 4 _ rfl).1
            have f5 := (e0 5 _ rfl).1
            have f6 := (e0 6 _ rfl).1
            have f7 := (e0 7 _ rfl).1
            have f8 := (e0 8 _ rfl).1
            have h0 := (e1 0 _ rfl).1
            have h1 := (e1 1 _ rfl).1
            have h2 := (e1 2 _ rfl).1
            have h3 := (e1 3 _ rfl).1
            have h4 := (e1 4 _ rfl).1
            have h5 := (e1 5 _ rfl).1
            have h6 := (e1 6 _ rfl).1
            have h7 := (e1 7 _ rfl).1
            have h8 := (e1 8 _ rfl).1
            simp only [Nat.zero_mul, Nat.one_mul, Nat.zero_add, Nat.add_zero, Nat.reduceAdd] at f0 f1 f2 f3 f4 f5 f6 f7 f8 h0 h1 h2 h3 h4 h5 h6 h7 h8
            have HP0 := Lib.hid (ExMP.on (Q := fun k => g + 3 ≤ k) (Nat.le_refl _) (fun _ _ _ => rfl) (fun k hk _ => hk.1) _ _ hp0)
            have HP1 := Lib.hid (ExMP.on (Q := fun k => g + 3 ≤ k) (Nat.le_refl _) (fun _ _ _ => rfl) (fun k hk _ => hk.1) _ _ hp1)
            clear e0 e1 hE hp0 hp1
            have n8 := HQ.out.x3.c 8 _ rfl
            have ln := HQ.out.x3.lt
            simp only at n8
            go_still_tail 8, (by kernel_rfl)
            change wpList _ _ _ _ _ N.drew
            have bd : Below N.heap.size N N.drew := ext_drew (ext_refl _)
            have HQ := Lib.hid (HQ.out.on bd)
            have HP0 := Lib.hid (ExMP.up HP0.out bd)
            have HP1 := Lib.hid (ExMP.up HP1.out bd)
            clear bd f0 f1 f2 f3 f4 f5 f6 f7 f8 h0 h1 h2 h3 h4 h5 h6 h7 h8 n8 ln hgl hbg
            generalize N.drew = V2 at HQ HP0 HP1 ⊢
            have n8 := HQ.out.x3.c 8 _ rfl
            have ln := HQ.out.x3.lt
            have fn := HQ.out.x3.fz 8
            simp only at n8
            have HF := Lib.hid (HQ.out.two (T := 26) HP1.out HP0.out)
            clear HQ HP0 HP1
            go_upto_region 24 with fail
            clear n8 ln fn
            change Code.wp _ _ _ _ ((V2.setCell ⟨g2, 8, none⟩ (.slice (some ⟨V2.heap.size, 0, none⟩) 2 2)).alloc (.cells (RawE.cells ⟨op1, ⟨vk1, vn1, vs1⟩, rel1, col1, nn1, s1, q1, len1, cc1⟩ ++ RawE.cells ⟨op0, ⟨vk0, vn0, vs0⟩, rel0, col0, nn0, s0, q0, len0, cc0⟩).toArray 26))
            generalize (V2.setCell ⟨g2, 8, none⟩ (.slice (some ⟨V2.heap.size, 0, none⟩) 2 2)).alloc (.cells (RawE.cells ⟨op1, ⟨vk1, vn1, vs1⟩, rel1, col1, nn1, s1, q1, len1, cc1⟩ ++ RawE.cells ⟨op0, ⟨vk0, vn0, vs0⟩, rel0, col0, nn0, s0, q0, len0, cc0⟩).toArray 26) = N3 at HF ⊢
            generalize V2.heap.size = gn at HF ⊢
            have HD := Lib.hid (HF.out.done HV.out)
            have w0 := HF.out.x3.c 0 _ rfl
            have w1 := HF.out.x3.c 1 _ rfl
            have w2 := HF.out.x3.c 2 _ rfl
            have w3 := HF.out.x3.c 3 _ rfl
            have w4 := HF.out.x3.c 4 _ rfl
            have w5 := HF.out.x3.c 5 _ rfl
            have w6 := HF.out.x3.c 6 _ rfl
            have w7 := HF.out.x3.c 7 _ rfl
            have w8 := HF.out.x3.c 8 _ rfl
            have lw := HF.out.x3.lt
            have d0 := HF.out.x2.c 0 _ rfl
            have d1 := HF.out.x2.c 1 _ rfl
            have d2 := HF.out.x2.c 2 _ rfl
            have d3 := HF.out.x2.c 3 _ rfl
            have d4 := HF.out.x2.c 4 _ rfl
            have d5 := HF.out.x2.c 5 _ rfl
            have d6 := HF.out.x2.c 6 _ rfl
            have d7 := HF.out.x2.c 7 _ rfl
            have d8 := HF.out.x2.c 8 _ rfl
            have ld := HF.out.x2.lt
            have fd := HF.out.x2.fz
            simp only at w0 w1 w2 w3 w4 w5 w6 w7 w8
            clear HF
            go_wp2_with fail
            change bodyPost _ _ _ _ _ (setE N3 g1 0 ⟨op2, v, rel, col, n, s, some ⟨gn, 0, none⟩, 2, 2⟩)
            clear w0 w1 w2 w3 w4 w5 w6 w7 w8 d0 d1 d2 d3 d4 d5 d6 d7 d8 lw ld fd
            obtain ⟨hbQ, ⟨-, cQ, -⟩, hP⟩ := HD.out
            generalize setE N3 g1 0 ⟨op2, v, rel, col, n, s, some ⟨gn, 0, none⟩, 2, 2⟩ = QQ at hbQ cQ hP ⊢
            have q0 := cQ 0 _ rfl
            have q1 := cQ 1 _ rfl
            have q2 := cQ 2 _ rfl
            have q3 := cQ 3 _ rfl
            have q4 := cQ 4 _ rfl
            have q5 := cQ 5 _ rfl
            have q6 := cQ 6 _ rfl
            have q7 := cQ 7 _ rfl
            have q8 := cQ 8 _ rfl
            clear cQ HD
            simp only at q0 q1 q2 q3 q4 q5 q6 q7 q8
            refine bodyPost_ret (v := .agg (exCells op2 v rel col n s (some ⟨gn, 0, none⟩) 2 2).toArray) (by simp [results, Tryd.results25, go_sem, q0, q1, q2, q3, q4, q5, q6, q7, q8]) rfl ⟨⟨_, rfl, ?_⟩, hbQ⟩
            rw [HNRM.out]
            exact hP
      · have b13 : (op == 13) = false := beq_eq_false_iff_ne.2 (fun h => hop (.inr (.inl h)))
        have b14 : (op == 14) = false := beq_eq_false_iff_ne.2 (fun h => hop (.inr (.inr h)))
        have hcf : commutes op = false := by cases h : commutes op <;> simp_all
        have hcc : (op == 4) = false ∧ (op == 6) = false ∧ (op == 9) = false ∧ (op == 10) = false ∧ (op == 15) = false ∧ (op == 16) = false := by
          unfold commutes at hcf
          simp only [Bool.or_eq_false_iff] at hcf
          obtain ⟨⟨⟨⟨⟨a, b⟩, c⟩, d⟩, e⟩, f⟩ := hcf
          exact ⟨a, b, c, d, e, f⟩
        obtain ⟨b4, b6, b9, b10, b15, b16⟩ := hcc
        have HNRM := Lib.hid (show (Ex.mk op v rel col n s l).norm = .mk op v rel col n s (normL l) by
          rw [Ex.norm]
          unfold fixE
          rw [if_neg (fun h => hop (.inr (.inl h))), if_neg (fun h => hop (.inr (.inr h))), hcf]
          rfl)
        clear hop hcf
        have HF := Lib.hid (HQ.out.fin rfl HLL.out)
        clear HQ HRR HR
        go_upto_region 24 with fail
        clear lt c8 k00 b13 b14 b4 b6 b9 b10 b15 b16
        have HD := Lib.hid (HF.out.done HV.out)
        have w0 := HF.out.x3.c 0 _ rfl
        have w1 := HF.out.x3.c 1 _ rfl
        have w2 := HF.out.x3.c 2 _ rfl
        have w3 := HF.out.x3.c 3 _ rfl
        have w4 := HF.out.x3.c 4 _ rfl
        have w5 := HF.out.x3.c 5 _ rfl
        have w6 := HF.out.x3.c 6 _ rfl
        have w7 := HF.out.x3.c 7 _ rfl
        have w8 := HF.out.x3.c 8 _ rfl
        have lw := HF.out.x3.lt
        have d0 := HF.out.x2.c 0 _ rfl
        have d1 := HF.out.x2.c 1 _ rfl
        have d2 := HF.out.x2.c 2 _ rfl
        have d3 := HF.out.x2.c 3 _ rfl
        have d4 := HF.out.x2.c 4 _ rfl
        have d5 := HF.out.x2.c 5 _ rfl
        have d6 := HF.out.x2.c 6 _ rfl
        have d7 := HF.out.x2.c 7 _ rfl
        have d8 := HF.out.x2.c 8 _ rfl
        have ld := HF.out.x2.lt
        have fd := HF.out.x2.fz
        simp only at w0 w1 w2 w3 w4 w5 w6 w7 w8
        clear HF
        go_wp2_with fail
        change bodyPost _ _ _ _ _ (setE V g1 0 ⟨op, v, rel, col, n, s, qv, i, cv⟩)
        clear w0 w1 w2 w3 w4 w5 w6 w7 w8 d0 d1 d2 d3 d4 d5 d6 d7 d8 lw ld fd
        obtain ⟨hbQ, ⟨-, cQ, -⟩, hP⟩ := HD.out
        generalize setE V g1 0 ⟨op, v, rel, col, n, s, qv, i, cv⟩ = QQ at hbQ cQ hP ⊢
        have q0 := cQ 0 _ rfl
        have q1 := cQ 1 _ rfl
        have q2 := cQ 2 _ rfl
        have q3 := cQ 3 _ rfl
        have q4 := cQ 4 _ rfl
        have q5 := cQ 5 _ rfl
        have q6 := cQ 6 _ rfl
        have q7 := cQ 7 _ rfl
        have q8 := cQ 8 _ rfl
        clear cQ HD
        simp only at q0 q1 q2 q3 q4 q5 q6 q7 q8
        refine bodyPost_ret (v := .agg (exCells op v rel col n s qv i cv).toArray) (by simp [results, Tryd.results25, go_sem, q0, q1, q2, q3, q4, q5, q6, q7, q8]) rfl ⟨⟨_, rfl, ?_⟩, hbQ⟩
        rw [HNRM.out]
        exact hP
end Go.Proofs.YtklgoajgchfmeaaDoor
