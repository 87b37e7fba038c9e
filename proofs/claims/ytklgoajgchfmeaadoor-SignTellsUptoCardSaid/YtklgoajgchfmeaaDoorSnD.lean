/- A part of the proof. -/
import Derived.Test.YtklgoajgchfmeaaDoorKn
set_option linter.unusedVariables false
set_option linter.unusedSimpArgs false
namespace Go.Proofs.YtklgoajgchfmeaaDoor
open Go.RowKit Go.Deep
set_option maxRecDepth 100000
def NormC (x : Ex) : Prop := ∀ (w : World) (cs : List Value), ExM w x cs → GE w → rightE x = true → Calls Tryd.prog 23 #[.agg cs.toArray] w fun e w' => (∃ cs' : List Value, e = .returned (.agg cs'.toArray) ∧ ExMP w' (fun g => w.heap.size ≤ g) x.norm cs') ∧ Below w.heap.size w w'
theorem Tryd.enterNormal (vals : Array Value) (w : World) : (callFunc 23 vals).run Tryd.prog w = .ok (.enter 23 vals) w := by kernel_rfl
structure NQ (w N : World) (g : Nat) (r : RawE) (v : Value) (L : List Ex) : Prop where
  b : Below w.heap.size w N
  x1 : XB N g r
  x2 : XB N (g + 1) rawZ
  gw : g = w.heap.size
  o : OwnX N (g + 2) (fun k => g + 2 ≤ k) v L
theorem NQ.on {w N N' : World} {g : Nat} {r : RawE} {v : Value} {L : List Ex} (h : NQ w N g r v L) (hb : Below N.heap.size N N') : NQ w N' g r v L := by
  obtain ⟨b, x1, x2, gw, o⟩ := h
  exact ⟨b.trans (hb.mono b.size), x1.on hb, x2.on hb, gw, o.later hb⟩
theorem NQ.start {w W X : World} {g : Nat} {r : RawE} {v : Value} {L : List Ex} {q : Option Addr} {len c : Nat} (hv : v = .slice q len c) (b : Below w.heap.size w W) (x1 : XB W g r) (x2 : XB W (g + 1) rawZ) (gw : g = w.heap.size) (zw : W.heap.size = g + 2) (hb : Below W.heap.size W X)
    (o : OwnX X W.heap.size (fun k => W.heap.size ≤ k) v L) : NQ w (X.setCell ⟨g, 8, none⟩ (.slice q len c)) g ⟨r.op, r.v, r.rel, r.col, r.n, r.s, q, len, c⟩ v L := by
  have ho : Out (fun k => k = g) X (X.setCell ⟨g, 8, none⟩ (.slice q len c)) := Out.set ⟨g, 8, none⟩ _ rfl
  have b1 := b.trans (hb.mono b.size)
  rw [zw] at o
  refine ⟨b1.trans (ho.below b1.size (fun k hk => by rw [hk]; omega)), (x1.on hb).cell8 q len c, (x2.on hb).out ho (by omega), gw, o.outs ho (fun k hk e => ?_) (fun k hk e => ?_)⟩
  · have := (o.lt k e).1; omega
  · omega
theorem NQ.cell0 {w N : World} {g : Nat} {r : RawE} {v : Value} {L : List Ex} (h : NQ w N g r v L) (op : Int) : NQ w (N.setCell ⟨g, 0, none⟩ (.int .i64 op)) g ⟨op, r.v, r.rel, r.col, r.n, r.s, r.q, r.len, r.c⟩ v L := by
  obtain ⟨b, x1, x2, gw, o⟩ := h
  have ho : Out (fun k => k = g) N (N.setCell ⟨g, 0, none⟩ (.int .i64 op)) := Out.set ⟨g, 0, none⟩ _ rfl
  refine ⟨b.trans (ho.below b.size (fun k hk => by rw [hk]; omega)), x1.set1 (by decide) rfl, x2.out ho (by omega), gw, o.outs ho (fun k hk e => ?_) (fun k hk e => ?_)⟩
  · have := (o.lt k e).1; omega
  · omega
theorem NQ.swap {w N N' : World} {g : Nat} {r : RawE} {gl c : Nat} {y0 y1 : Ex} {r0 r1 : RawE} (h : NQ w N g r (.slice (some ⟨gl, 0, none⟩) 2 c) [y0, y1]) (hg : g + 2 ≤ gl) (h0 : ExMP N (fun k => g + 2 ≤ k ∧ k ≠ gl) y0 r0.cells) (h1 : ExMP N (fun k => g + 2 ≤ k ∧ k ≠ gl) y1 r1.cells)
    (hO : OwnE N' (g + 2) (.slice (some ⟨gl, 0, none⟩) 2 c) [r1, r0]) (ho : Out (fun k => k = gl) N N') : NQ w N' g r (.slice (some ⟨gl, 0, none⟩) 2 c) [y1, y0] := by
  obtain ⟨b, x1, x2, gw, o⟩ := h
  exact ⟨b.trans (ho.below b.size (fun k hk => by rw [hk]; omega)), x1.out ho (by omega), x2.out ho (by omega), gw, OwnX.swapped h0 h1 hO ho⟩
theorem NQ.done {w N : World} {g : Nat} {op : Int} {v0 : Val} {rel col n : Int} {s : ByteArray} {q : Option Addr} {len c : Nat} {v : Value} {L : List Ex} (h : NQ w N g ⟨op, v0, rel, col, n, s, q, len, c⟩ v L) (hv : okVal v0) (e : v = .slice q len c) (hl : len = L.length) :
    Below w.heap.size w (setE N (g + 1) 0 ⟨op, v0, rel, col, n, s, q, len, c⟩) ∧ XB (setE N (g + 1) 0 ⟨op, v0, rel, col, n, s, q, len, c⟩) (g + 1) ⟨op, v0, rel, col, n, s, q, len, c⟩ ∧
    ExMP (setE N (g + 1) 0 ⟨op, v0, rel, col, n, s, q, len, c⟩) (fun k => w.heap.size ≤ k) (.mk op v0 rel col n s L) (exCells op v0 rel col n s q len c) := by
  obtain ⟨b, x1, x2, gw, o⟩ := h
  have ho := setE_out N (g + 1) 0 ⟨op, v0, rel, col, n, s, q, len, c⟩
  refine ⟨b.trans (ho.below b.size (fun k hk => by rw [hk]; omega)), XB.setAll x2 _, ?_⟩
  have o2 := o.outs ho (fun k hk e => by have := (o.lt k e).1; omega) (fun k hk e => by omega)
  obtain ⟨q', c', e', h1, -, h3⟩ := o2.toP (Q := fun k => w.heap.size ≤ k) (fun k hk _ => by omega) (fun k hk _ => by omega)
  rw [e] at e'
  simp only [Value.slice.injEq] at e'
  obtain ⟨rfl, rfl, rfl⟩ := e'
  exact ExMP.iff.2 ⟨hv, q, c, rfl, h1, h3⟩
theorem head_two8' {op : Int} {v : Val} {rel col n : Int} {s : ByteArray} {len : Nat} (h : headOk op v rel col n s len = true) (hc : commutes op = true ∨ op = 13 ∨ op = 14) : len = 2 := by
  have h1 : wantsOf op = (len : Int) := by unfold headOk at h; simp only [Bool.and_eq_true, beq_iff_eq] at h; exact h.1.1.1.1.1
  have hc' : op = 4 ∨ op = 6 ∨ op = 9 ∨ op = 10 ∨ op = 15 ∨ op = 16 ∨ op = 13 ∨ op = 14 := by
    rcases hc with hc | hc
    · have : op = 4 ∨ op = 6 ∨ op = 9 ∨ op = 10 ∨ op = 15 ∨ op = 16 := by simpa [commutes, or_assoc] using hc
      omega
    · omega
  unfold wantsOf at h1
  rw [if_neg (by omega), if_neg (by omega), if_neg (by omega)] at h1
  omega
set_option maxHeartbeats 8000000 in
theorem normC_other (op : Int) (v : Val) (rel col n : Int) (s : ByteArray) (l : List Ex) (hlm : l.length ≤ 2) (hop : ¬ (commutes op = true ∨ op = 13 ∨ op = 14)) (IH : ∀ y ∈ l, NormC y) : NormC (.mk op v rel col n s l) := by
  intro w cs hx hG hr
  have HR := Lib.hid (right_op hr).2
  have HI := Lib.hid IH
  have HG := Lib.hid hG
  rw [ExM.iff] at hx
  obtain ⟨hv, q, c, rfl, -, hl⟩ := hx
  have HV := Lib.hid hv
  have HL := Lib.hid hl
  clear hv hl hr IH hG
  obtain ⟨len, hlen⟩ : ∃ len, len = l.length := ⟨_, rfl⟩
  rw [← hlen] at hlm ⊢
  have HLEN := Lib.hid hlen
  have HNRM := Lib.hid (show (Ex.mk op v rel col n s l).norm = .mk op v rel col n s (l.map Ex.norm) by
    rw [Ex.norm, fixE, if_neg (fun e => hop (.inr (.inl e))), if_neg (fun e => hop (.inr (.inr e))), if_neg (fun e => hop (.inl (by rw [Bool.and_eq_true] at e; exact e.1))), normL_map])
  have b13 : (op == 13) = false := by rw [beq_eq_false_iff_ne]; exact fun e => hop (.inr (.inl e))
  have b14 : (op == 14) = false := by rw [beq_eq_false_iff_ne]; exact fun e => hop (.inr (.inr e))
  have hcm : commutes op = false := by cases h : commutes op with | true => exact absurd (.inl h) hop | false => rfl
  unfold commutes at hcm
  simp only [Bool.or_eq_false_iff] at hcm
  obtain ⟨⟨⟨⟨⟨b4, b6⟩, b9⟩, b10⟩, b15⟩, b16⟩ := hcm
  clear hlen hop
  obtain ⟨W1, hW1⟩ : ∃ W, W = w.alloc (.cells (exCells op v rel col n s q len c).toArray 26) := ⟨_, rfl⟩
  have E0 : XB W1 w.heap.size ⟨op, v, rel, col, n, s, q, len, c⟩ := by rw [hW1]; exact XB.new w ⟨op, v, rel, col, n, s, q, len, c⟩ _
  have z1 : W1.heap.size = w.heap.size + 1 := by rw [hW1]; simp
  obtain ⟨W, hW⟩ : ∃ W, W = W1.alloc (.cells rawZ.cells.toArray 26) := ⟨_, rfl⟩
  have b1 : Below W1.heap.size W1 W := by rw [hW]; (repeat (first | exact ext_refl _ | assumption | (refine ext_alloc ?_ _) | (refine ext_drewN ?_ _) | refine ext_drew ?_ | (refine ext_set (by first | (simp; done) | (simp; omega)) _ ?_) | (refine ext_trans ?_ (by assumption))))
  have E1 := E0.on b1
  have E2 : XB W (w.heap.size + 1) rawZ := by rw [hW, ← z1]; exact XB.new W1 rawZ _
  have b : Below w.heap.size w W := by rw [hW, hW1]; (repeat (first | exact ext_refl _ | assumption | (refine ext_alloc ?_ _) | (refine ext_drewN ?_ _) | refine ext_drew ?_ | (refine ext_set (by first | (simp; done) | (simp; omega)) _ ?_) | (refine ext_trans ?_ (by assumption))))
  have z2 : W.heap.size = w.heap.size + 2 := by rw [hW]; simp [z1]
  have HWW := Lib.hid (show W = (w.alloc (.cells (exCells op v rel col n s q len c).toArray 26)).alloc (.cells rawZ.cells.toArray 26) by rw [hW, hW1])
  clear hW hW1 E0 z1 b1
  go_enter Tryd.func23, Tryd.ntmps23
  go_upto_region 1 with fail
  change Code.wp _ _ _ _ ((w.alloc (.cells (exCells op v rel col n s q len c).toArray 26)).alloc (.cells rawZ.cells.toArray 26))
  rw [← HWW.out]
  clear HWW
  obtain ⟨g, hg⟩ : ∃ g, g = w.heap.size := ⟨_, rfl⟩
  have HGW := Lib.hid hg
  rw [← hg] at E1 E2 z2 ⊢
  have HB := Lib.hid b
  have HE1 := Lib.hid E1
  have HE2 := Lib.hid E2
  have HZ2 := Lib.hid z2
  clear hg b z2 E2
  have lt := E1.lt
  have c8 := E1.c 8 _ rfl
  clear E1
  simp only at c8
  have HC : Calls Tryd.prog 38 #[.slice q len c, .func (.func 23) #[] #[]] W fun e w' => (∃ ql cl, e = .returned (.slice ql len cl) ∧ OwnX w' W.heap.size (fun k => W.heap.size ≤ k) (.slice ql len cl) (l.map Ex.norm)) ∧ Below W.heap.size W w' := by
    have h := changed_any 23 [] Ex.norm l q c W (ExL.ext HB.out _ _ _ HL.out) (by rw [← HLEN.out]; omega) (fun y hy W' cs hb hM => HI.out y hy W' cs hM (HG.out.on (HB.out.trans (hb.mono HB.out.size))) (HR.out y hy)) Tryd.enterNormal
    rw [show (l : List Ex).length = len from HLEN.out.symm] at h
    refine h.mono ?_
    rintro e W' ⟨⟨vl, rfl, hO⟩, hb⟩
    obtain ⟨ql, cl, rfl, -, -, -⟩ := hO.toL
    rw [List.length_map, show (l : List Ex).length = len from HLEN.out.symm] at hO ⊢
    exact ⟨⟨ql, cl, rfl, hO⟩, hb⟩
  have HC := Lib.hid HC
  go_upto_region 2 with (go_at_call 38; (refine HC.out.mono ?_; rintro e X ⟨⟨ql, cl, rfl, hO⟩, hbX⟩; have HO := Lib.hid hO; have HBX := Lib.hid hbX; have HE1X := HE1.out.on hbX; have hgX := HE1X.lt; have fgX := HE1X.fz; have e8 := HE1X.c 8 _ rfl; simp only at e8; clear hO hbX HE1X lt c8))
  have hQ := NQ.start rfl HB.out HE1.out HE2.out HGW.out HZ2.out HBX.out HO.out
  simp only at hQ
  obtain ⟨N, hN⟩ : ∃ N, N = X.setCell ⟨g, 8, none⟩ (.slice ql len cl) := ⟨_, rfl⟩
  rw [← hN] at hQ ⊢
  have HGN := Lib.hid (HG.out.on hQ.b)
  have HQ := Lib.hid hQ
  clear hN hgX fgX e8 HO HBX HC HE1 HE2 HB HZ2 HI
  obtain ⟨lt, cc, fz⟩ := hQ.x1
  have c0 := cc 0 _ rfl
  have c1 := cc 1 _ rfl
  have c2 := cc 2 _ rfl
  have c3 := cc 3 _ rfl
  have c4 := cc 4 _ rfl
  have c5 := cc 5 _ rfl
  have c6 := cc 6 _ rfl
  have c7 := cc 7 _ rfl
  have c8 := cc 8 _ rfl
  simp only at c0 c1 c2 c3 c4 c5 c6 c7 c8
  clear cc
  obtain ⟨ltR, cR, fR⟩ := HQ.out.x2
  have d0 := cR 0 _ rfl
  have d1 := cR 1 _ rfl
  have d2 := cR 2 _ rfl
  have d3 := cR 3 _ rfl
  have d4 := cR 4 _ rfl
  have d5 := cR 5 _ rfl
  have d6 := cR 6 _ rfl
  have d7 := cR 7 _ rfl
  have d8 := cR 8 _ rfl
  clear cR
  go_wp2_with fail
  change bodyPost _ _ _ _ _ (setE N (g + 1) 0 ⟨op, v, rel, col, n, s, ql, len, cl⟩)
  obtain ⟨hbQ, ⟨-, cQ, -⟩, hP⟩ := HQ.out.done HV.out rfl (by rw [List.length_map]; exact HLEN.out)
  obtain ⟨Q, hQQ⟩ : ∃ Q, Q = setE N (g + 1) 0 ⟨op, v, rel, col, n, s, ql, len, cl⟩ := ⟨_, rfl⟩
  rw [← hQQ] at hbQ cQ hP
  rw [← hQQ]
  have q0 := cQ 0 _ rfl
  have q1 := cQ 1 _ rfl
  have q2 := cQ 2 _ rfl
  have q3 := cQ 3 _ rfl
  have q4 := cQ 4 _ rfl
  have q5 := cQ 5 _ rfl
  have q6 := cQ 6 _ rfl
  have q7 := cQ 7 _ rfl
  have q8 := cQ 8 _ rfl
  clear hQQ cQ
  simp only at q0 q1 q2 q3 q4 q5 q6 q7 q8
  refine bodyPost_ret (v := .agg (exCells op v rel col n s ql len cl).toArray) (by simp [results, Tryd.results23, go_sem, q0, q1, q2, q3, q4, q5, q6, q7, q8]) rfl ⟨⟨_, rfl, ?_⟩, hbQ⟩
  rw [HNRM.out]
  exact hP
set_option maxHeartbeats 8000000 in
theorem normC_gt (op : Int) (v : Val) (rel col n : Int) (s : ByteArray) (y0 y1 : Ex) (hop : op = 13) (IH : ∀ y ∈ [y0, y1], NormC y) : NormC (.mk op v rel col n s [y0, y1]) := by
  intro w cs hx hG hr
  have HR := Lib.hid (right_op hr).2
  have HI := Lib.hid IH
  have HG := Lib.hid hG
  rw [ExM.iff] at hx
  obtain ⟨hv, q, c, rfl, -, hl⟩ := hx
  have HV := Lib.hid hv
  have HL := Lib.hid hl
  clear hv hl hr IH hG
  have HNRM := Lib.hid (show (Ex.mk op v rel col n s [y0, y1]).norm = .mk 11 v rel col n s [y1.norm, y0.norm] by rw [Ex.norm, fixE, hop, normL, normL, normL]; rfl)
  have b13 : (op == 13) = true := by rw [hop]; rfl
  clear hop
  obtain ⟨W1, hW1⟩ : ∃ W, W = w.alloc (.cells (exCells op v rel col n s q 2 c).toArray 26) := ⟨_, rfl⟩
  have E0 : XB W1 w.heap.size ⟨op, v, rel, col, n, s, q, 2, c⟩ := by rw [hW1]; exact XB.new w ⟨op, v, rel, col, n, s, q, 2, c⟩ _
  have z1 : W1.heap.size = w.heap.size + 1 := by rw [hW1]; simp
  obtain ⟨W, hW⟩ : ∃ W, W = W1.alloc (.cells rawZ.cells.toArray 26) := ⟨_, rfl⟩
  have b1 : Below W1.heap.size W1 W := by rw [hW]; (repeat (first | exact ext_refl _ | assumption | (refine ext_alloc ?_ _) | (refine ext_drewN ?_ _) | refine ext_drew ?_ | (refine ext_set (by first | (simp; done) | (simp; omega)) _ ?_) | (refine ext_trans ?_ (by assumption))))
  have E1 := E0.on b1
  have E2 : XB W (w.heap.size + 1) rawZ := by rw [hW, ← z1]; exact XB.new W1 rawZ _
  have b : Below w.heap.size w W := by rw [hW, hW1]; (repeat (first | exact ext_refl _ | assumption | (refine ext_alloc ?_ _) | (refine ext_drewN ?_ _) | refine ext_drew ?_ | (refine ext_set (by first | (simp; done) | (simp; omega)) _ ?_) | (refine ext_trans ?_ (by assumption))))
  have z2 : W.heap.size = w.heap.size + 2 := by rw [hW]; simp [z1]
  have HWW := Lib.hid (show W = (w.alloc (.cells (exCells op v rel col n s q 2 c).toArray 26)).alloc (.cells rawZ.cells.toArray 26) by rw [hW, hW1])
  clear hW hW1 E0 z1 b1
  go_enter Tryd.func23, Tryd.ntmps23
  go_upto_region 1 with fail
  change Code.wp _ _ _ _ ((w.alloc (.cells (exCells op v rel col n s q 2 c).toArray 26)).alloc (.cells rawZ.cells.toArray 26))
  rw [← HWW.out]
  clear HWW
  obtain ⟨g, hg⟩ : ∃ g, g = w.heap.size := ⟨_, rfl⟩
  have HGW := Lib.hid hg
  rw [← hg] at E1 E2 z2 ⊢
  have HB := Lib.hid b
  have HE1 := Lib.hid E1
  have HE2 := Lib.hid E2
  have HZ2 := Lib.hid z2
  clear hg b z2 E2
  have lt := E1.lt
  have c8 := E1.c 8 _ rfl
  clear E1
  simp only at c8
  have HC : Calls Tryd.prog 38 #[.slice q 2 c, .func (.func 23) #[] #[]] W fun e w' => (∃ ql cl, e = .returned (.slice ql 2 cl) ∧ OwnX w' W.heap.size (fun k => W.heap.size ≤ k) (.slice ql 2 cl) [y0.norm, y1.norm]) ∧ Below W.heap.size W w' := by
    have h := changed_any 23 [] Ex.norm [y0, y1] q c W (ExL.ext HB.out _ _ _ HL.out) (show 2 * 104 ≤ 140737488355328 by decide) (fun y hy W' cs hb hM => HI.out y hy W' cs hM (HG.out.on (HB.out.trans (hb.mono HB.out.size))) (HR.out y hy)) Tryd.enterNormal
    rw [show ([y0, y1] : List Ex).length = 2 from rfl] at h
    refine h.mono ?_
    rintro e W' ⟨⟨vl, rfl, hO⟩, hb⟩
    obtain ⟨ql, cl, rfl, -, -, -⟩ := hO.toL
    rw [List.length_map, show ([y0, y1] : List Ex).length = 2 from rfl] at hO ⊢
    exact ⟨⟨ql, cl, rfl, hO⟩, hb⟩
  have HC := Lib.hid HC
  go_upto_region 2 with (go_at_call 38; (refine HC.out.mono ?_; rintro e X ⟨⟨ql, cl, rfl, hO⟩, hbX⟩; have HO := Lib.hid hO; have HBX := Lib.hid hbX; have HE1X := HE1.out.on hbX; have hgX := HE1X.lt; have fgX := HE1X.fz; have e8 := HE1X.c 8 _ rfl; simp only at e8; clear hO hbX HE1X lt c8))
  have hQ := NQ.start rfl HB.out HE1.out HE2.out HGW.out HZ2.out HBX.out HO.out
  simp only at hQ
  obtain ⟨N, hN⟩ : ∃ N, N = X.setCell ⟨g, 8, none⟩ (.slice ql 2 cl) := ⟨_, rfl⟩
  rw [← hN] at hQ ⊢
  have HGN := Lib.hid (HG.out.on hQ.b)
  have HQ := Lib.hid hQ
  clear hN hgX fgX e8 HO HBX HC HE1 HE2 HB HZ2 HI
  obtain ⟨lt, cc, fz⟩ := hQ.x1
  obtain ⟨gl, cl', r0, r1, e2, hbg, hgl, hE, hp0, hp1⟩ := OwnX.two hQ.o
  simp only [Value.slice.injEq, true_and] at e2
  obtain ⟨rfl, rfl⟩ := e2
  have c0 := cc 0 _ rfl
  have c1 := cc 1 _ rfl
  have c2 := cc 2 _ rfl
  have c3 := cc 3 _ rfl
  have c4 := cc 4 _ rfl
  have c5 := cc 5 _ rfl
  have c6 := cc 6 _ rfl
  have c7 := cc 7 _ rfl
  have c8 := cc 8 _ rfl
  simp only at c0 c1 c2 c3 c4 c5 c6 c7 c8
  clear cc
  clear hE hp0 hp1 hbg hgl hQ
  go_upto_region 5 with fail
  obtain ⟨N1, hN1⟩ : ∃ M, M = N.setCell ⟨g, 0, none⟩ (.int .i64 11) := ⟨_, rfl⟩
  have HQ1 := Lib.hid (HQ.out.cell0 11)
  simp only at HQ1
  rw [← hN1] at HQ1 ⊢
  clear hN1 c0 c1 c2 c3 c4 c5 c6 c7 c8 fz lt
  obtain ⟨lt, cc, fz⟩ := HQ1.out.x1
  have c0 := cc 0 _ rfl
  have c1 := cc 1 _ rfl
  have c2 := cc 2 _ rfl
  have c3 := cc 3 _ rfl
  have c4 := cc 4 _ rfl
  have c5 := cc 5 _ rfl
  have c6 := cc 6 _ rfl
  have c7 := cc 7 _ rfl
  have c8 := cc 8 _ rfl
  simp only at c0 c1 c2 c3 c4 c5 c6 c7 c8
  clear cc
  obtain ⟨gl2, cl2, s0, s1, e3, hbg2, -, hE2, hs0, hs1⟩ := OwnX.two HQ1.out.o
  simp only [Value.slice.injEq, Option.some.injEq, Addr.mk.injEq, and_true, true_and] at e3
  obtain ⟨rfl, rfl⟩ := e3
  have HX := Lib.hid (exchange_any (g + 2) gl cl s0 s1 N1 hE2)
  have HH := Lib.hid (And.intro hbg2 (And.intro hs0 hs1))
  clear hE2 hs0 hs1 hbg2
  go_upto_region 17 with (go_at_call 39; (refine HX.out.mono ?_; rintro e N2 ⟨rfl, hEE, hoo⟩; have HQ2 := Lib.hid (HQ1.out.swap HH.out.1 HH.out.2.1 HH.out.2.2 hEE hoo); clear hEE hoo))
  clear c0 c1 c2 c3 c4 c5 c6 c7 c8 fz lt
  obtain ⟨lt, cc, fz⟩ := HQ2.out.x1
  have c0 := cc 0 _ rfl
  have c1 := cc 1 _ rfl
  have c2 := cc 2 _ rfl
  have c3 := cc 3 _ rfl
  have c4 := cc 4 _ rfl
  have c5 := cc 5 _ rfl
  have c6 := cc 6 _ rfl
  have c7 := cc 7 _ rfl
  have c8 := cc 8 _ rfl
  simp only at c0 c1 c2 c3 c4 c5 c6 c7 c8
  clear cc
  obtain ⟨ltR, cR, fR⟩ := HQ2.out.x2
  have d0 := cR 0 _ rfl
  have d1 := cR 1 _ rfl
  have d2 := cR 2 _ rfl
  have d3 := cR 3 _ rfl
  have d4 := cR 4 _ rfl
  have d5 := cR 5 _ rfl
  have d6 := cR 6 _ rfl
  have d7 := cR 7 _ rfl
  have d8 := cR 8 _ rfl
  clear cR
  go_wp2_with fail
  change bodyPost _ _ _ _ _ (setE N2 (g + 1) 0 ⟨11, v, rel, col, n, s, (some ⟨gl, 0, none⟩), 2, cl⟩)
  obtain ⟨hbQ, ⟨-, cQ, -⟩, hP⟩ := HQ2.out.done HV.out rfl rfl
  obtain ⟨Q, hQQ⟩ : ∃ Q, Q = setE N2 (g + 1) 0 ⟨11, v, rel, col, n, s, (some ⟨gl, 0, none⟩), 2, cl⟩ := ⟨_, rfl⟩
  rw [← hQQ] at hbQ cQ hP
  rw [← hQQ]
  have q0 := cQ 0 _ rfl
  have q1 := cQ 1 _ rfl
  have q2 := cQ 2 _ rfl
  have q3 := cQ 3 _ rfl
  have q4 := cQ 4 _ rfl
  have q5 := cQ 5 _ rfl
  have q6 := cQ 6 _ rfl
  have q7 := cQ 7 _ rfl
  have q8 := cQ 8 _ rfl
  clear hQQ cQ
  simp only at q0 q1 q2 q3 q4 q5 q6 q7 q8
  refine bodyPost_ret (v := .agg (exCells 11 v rel col n s (some ⟨gl, 0, none⟩) 2 cl).toArray) (by simp [results, Tryd.results23, go_sem, q0, q1, q2, q3, q4, q5, q6, q7, q8]) rfl ⟨⟨_, rfl, ?_⟩, hbQ⟩
  rw [HNRM.out]
  exact hP
set_option maxHeartbeats 8000000 in
theorem normC_ge (op : Int) (v : Val) (rel col n : Int) (s : ByteArray) (y0 y1 : Ex) (hop : op = 14) (IH : ∀ y ∈ [y0, y1], NormC y) : NormC (.mk op v rel col n s [y0, y1]) := by
  intro w cs hx hG hr
  have HR := Lib.hid (right_op hr).2
  have HI := Lib.hid IH
  have HG := Lib.hid hG
  rw [ExM.iff] at hx
  obtain ⟨hv, q, c, rfl, -, hl⟩ := hx
  have HV := Lib.hid hv
  have HL := Lib.hid hl
  clear hv hl hr IH hG
  have HNRM := Lib.hid (show (Ex.mk op v rel col n s [y0, y1]).norm = .mk 12 v rel col n s [y1.norm, y0.norm] by rw [Ex.norm, fixE, hop, normL, normL, normL]; rfl)
  have b13 : (op == 13) = false := by rw [hop]; rfl
  have b14 : (op == 14) = true := by rw [hop]; rfl
  clear hop
  obtain ⟨W1, hW1⟩ : ∃ W, W = w.alloc (.cells (exCells op v rel col n s q 2 c).toArray 26) := ⟨_, rfl⟩
  have E0 : XB W1 w.heap.size ⟨op, v, rel, col, n, s, q, 2, c⟩ := by rw [hW1]; exact XB.new w ⟨op, v, rel, col, n, s, q, 2, c⟩ _
  have z1 : W1.heap.size = w.heap.size + 1 := by rw [hW1]; simp
  obtain ⟨W, hW⟩ : ∃ W, W = W1.alloc (.cells rawZ.cells.toArray 26) := ⟨_, rfl⟩
  have b1 : Below W1.heap.size W1 W := by rw [hW]; (repeat (first | exact ext_refl _ | assumption | (refine ext_alloc ?_ _) | (refine ext_drewN ?_ _) | refine ext_drew ?_ | (refine ext_set (by first | (simp; done) | (simp; omega)) _ ?_) | (refine ext_trans ?_ (by assumption))))
  have E1 := E0.on b1
  have E2 : XB W (w.heap.size + 1) rawZ := by rw [hW, ← z1]; exact XB.new W1 rawZ _
  have b : Below w.heap.size w W := by rw [hW, hW1]; (repeat (first | exact ext_refl _ | assumption | (refine ext_alloc ?_ _) | (refine ext_drewN ?_ _) | refine ext_drew ?_ | (refine ext_set (by first | (simp; done) | (simp; omega)) _ ?_) | (refine ext_trans ?_ (by assumption))))
  have z2 : W.heap.size = w.heap.size + 2 := by rw [hW]; simp [z1]
  have HWW := Lib.hid (show W = (w.alloc (.cells (exCells op v rel col n s q 2 c).toArray 26)).alloc (.cells rawZ.cells.toArray 26) by rw [hW, hW1])
  clear hW hW1 E0 z1 b1
  go_enter Tryd.func23, Tryd.ntmps23
  go_upto_region 1 with fail
  change Code.wp _ _ _ _ ((w.alloc (.cells (exCells op v rel col n s q 2 c).toArray 26)).alloc (.cells rawZ.cells.toArray 26))
  rw [← HWW.out]
  clear HWW
  obtain ⟨g, hg⟩ : ∃ g, g = w.heap.size := ⟨_, rfl⟩
  have HGW := Lib.hid hg
  rw [← hg] at E1 E2 z2 ⊢
  have HB := Lib.hid b
  have HE1 := Lib.hid E1
  have HE2 := Lib.hid E2
  have HZ2 := Lib.hid z2
  clear hg b z2 E2
  have lt := E1.lt
  have c8 := E1.c 8 _ rfl
  clear E1
  simp only at c8
  have HC : Calls Tryd.prog 38 #[.slice q 2 c, .func (.func 23) #[] #[]] W fun e w' => (∃ ql cl, e = .returned (.slice ql 2 cl) ∧ OwnX w' W.heap.size (fun k => W.heap.size ≤ k) (.slice ql 2 cl) [y0.norm, y1.norm]) ∧ Below W.heap.size W w' := by
    have h := changed_any 23 [] Ex.norm [y0, y1] q c W (ExL.ext HB.out _ _ _ HL.out) (show 2 * 104 ≤ 140737488355328 by decide) (fun y hy W' cs hb hM => HI.out y hy W' cs hM (HG.out.on (HB.out.trans (hb.mono HB.out.size))) (HR.out y hy)) Tryd.enterNormal
    rw [show ([y0, y1] : List Ex).length = 2 from rfl] at h
    refine h.mono ?_
    rintro e W' ⟨⟨vl, rfl, hO⟩, hb⟩
    obtain ⟨ql, cl, rfl, -, -, -⟩ := hO.toL
    rw [List.length_map, show ([y0, y1] : List Ex).length = 2 from rfl] at hO ⊢
    exact ⟨⟨ql, cl, rfl, hO⟩, hb⟩
  have HC := Lib.hid HC
  go_upto_region 2 with (go_at_call 38; (refine HC.out.mono ?_; rintro e X ⟨⟨ql, cl, rfl, hO⟩, hbX⟩; have HO := Lib.hid hO; have HBX := Lib.hid hbX; have HE1X := HE1.out.on hbX; have hgX := HE1X.lt; have fgX := HE1X.fz; have e8 := HE1X.c 8 _ rfl; simp only at e8; clear hO hbX HE1X lt c8))
  have hQ := NQ.start rfl HB.out HE1.out HE2.out HGW.out HZ2.out HBX.out HO.out
  simp only at hQ
  obtain ⟨N, hN⟩ : ∃ N, N = X.setCell ⟨g, 8, none⟩ (.slice ql 2 cl) := ⟨_, rfl⟩
  rw [← hN] at hQ ⊢
  have HGN := Lib.hid (HG.out.on hQ.b)
  have HQ := Lib.hid hQ
  clear hN hgX fgX e8 HO HBX HC HE1 HE2 HB HZ2 HI
  obtain ⟨lt, cc, fz⟩ := hQ.x1
  obtain ⟨gl, cl', r0, r1, e2, hbg, hgl, hE, hp0, hp1⟩ := OwnX.two hQ.o
  simp only [Value.slice.injEq, true_and] at e2
  obtain ⟨rfl, rfl⟩ := e2
  have c0 := cc 0 _ rfl
  have c1 := cc 1 _ rfl
  have c2 := cc 2 _ rfl
  have c3 := cc 3 _ rfl
  have c4 := cc 4 _ rfl
  have c5 := cc 5 _ rfl
  have c6 := cc 6 _ rfl
  have c7 := cc 7 _ rfl
  have c8 := cc 8 _ rfl
  simp only at c0 c1 c2 c3 c4 c5 c6 c7 c8
  clear cc
  clear hE hp0 hp1 hbg hgl hQ
  go_upto_region 8 with fail
  obtain ⟨N1, hN1⟩ : ∃ M, M = N.setCell ⟨g, 0, none⟩ (.int .i64 12) := ⟨_, rfl⟩
  have HQ1 := Lib.hid (HQ.out.cell0 12)
  simp only at HQ1
  rw [← hN1] at HQ1 ⊢
  clear hN1 c0 c1 c2 c3 c4 c5 c6 c7 c8 fz lt
  obtain ⟨lt, cc, fz⟩ := HQ1.out.x1
  have c0 := cc 0 _ rfl
  have c1 := cc 1 _ rfl
  have c2 := cc 2 _ rfl
  have c3 := cc 3 _ rfl
  have c4 := cc 4 _ rfl
  have c5 := cc 5 _ rfl
  have c6 := cc 6 _ rfl
  have c7 := cc 7 _ rfl
  have c8 := cc 8 _ rfl
  simp only at c0 c1 c2 c3 c4 c5 c6 c7 c8
  clear cc
  obtain ⟨gl2, cl2, s0, s1, e3, hbg2, -, hE2, hs0, hs1⟩ := OwnX.two HQ1.out.o
  simp only [Value.slice.injEq, Option.some.injEq, Addr.mk.injEq, and_true, true_and] at e3
  obtain ⟨rfl, rfl⟩ := e3
  have HX := Lib.hid (exchange_any (g + 2) gl cl s0 s1 N1 hE2)
  have HH := Lib.hid (And.intro hbg2 (And.intro hs0 hs1))
  clear hE2 hs0 hs1 hbg2
  go_upto_region 17 with (go_at_call 39; (refine HX.out.mono ?_; rintro e N2 ⟨rfl, hEE, hoo⟩; have HQ2 := Lib.hid (HQ1.out.swap HH.out.1 HH.out.2.1 HH.out.2.2 hEE hoo); clear hEE hoo))
  clear c0 c1 c2 c3 c4 c5 c6 c7 c8 fz lt
  obtain ⟨lt, cc, fz⟩ := HQ2.out.x1
  have c0 := cc 0 _ rfl
  have c1 := cc 1 _ rfl
  have c2 := cc 2 _ rfl
  have c3 := cc 3 _ rfl
  have c4 := cc 4 _ rfl
  have c5 := cc 5 _ rfl
  have c6 := cc 6 _ rfl
  have c7 := cc 7 _ rfl
  have c8 := cc 8 _ rfl
  simp only at c0 c1 c2 c3 c4 c5 c6 c7 c8
  clear cc
  obtain ⟨ltR, cR, fR⟩ := HQ2.out.x2
  have d0 := cR 0 _ rfl
  have d1 := cR 1 _ rfl
  have d2 := cR 2 _ rfl
  have d3 := cR 3 _ rfl
  have d4 := cR 4 _ rfl
  have d5 := cR 5 _ rfl
  have d6 := cR 6 _ rfl
  have d7 := cR 7 _ rfl
  have d8 := cR 8 _ rfl
  clear cR
  go_wp2_with fail
  change bodyPost _ _ _ _ _ (setE N2 (g + 1) 0 ⟨12, v, rel, col, n, s, (some ⟨gl, 0, none⟩), 2, cl⟩)
  obtain ⟨hbQ, ⟨-, cQ, -⟩, hP⟩ := HQ2.out.done HV.out rfl rfl
  obtain ⟨Q, hQQ⟩ : ∃ Q, Q = setE N2 (g + 1) 0 ⟨12, v, rel, col, n, s, (some ⟨gl, 0, none⟩), 2, cl⟩ := ⟨_, rfl⟩
  rw [← hQQ] at hbQ cQ hP
  rw [← hQQ]
  have q0 := cQ 0 _ rfl
  have q1 := cQ 1 _ rfl
  have q2 := cQ 2 _ rfl
  have q3 := cQ 3 _ rfl
  have q4 := cQ 4 _ rfl
  have q5 := cQ 5 _ rfl
  have q6 := cQ 6 _ rfl
  have q7 := cQ 7 _ rfl
  have q8 := cQ 8 _ rfl
  clear hQQ cQ
  simp only at q0 q1 q2 q3 q4 q5 q6 q7 q8
  refine bodyPost_ret (v := .agg (exCells 12 v rel col n s (some ⟨gl, 0, none⟩) 2 cl).toArray) (by simp [results, Tryd.results23, go_sem, q0, q1, q2, q3, q4, q5, q6, q7, q8]) rfl ⟨⟨_, rfl, ?_⟩, hbQ⟩
  rw [HNRM.out]
  exact hP
set_option maxHeartbeats 8000000 in
theorem normC_4 (op : Int) (v : Val) (rel col n : Int) (s : ByteArray) (y0 y1 : Ex) (hop : op = 4) (hlt : Op.bytesLess y1.norm.print y0.norm.print = false) (IH : ∀ y ∈ [y0, y1], NormC y) : NormC (.mk op v rel col n s [y0, y1]) := by
  intro w cs hx hG hr
  have HR := Lib.hid (right_op hr).2
  have HI := Lib.hid IH
  have HG := Lib.hid hG
  rw [ExM.iff] at hx
  obtain ⟨hv, q, c, rfl, -, hl⟩ := hx
  have HV := Lib.hid hv
  have HL := Lib.hid hl
  clear hv hl hr IH hG
  have HNRM := Lib.hid (show (Ex.mk op v rel col n s [y0, y1]).norm = .mk op v rel col n s [y0.norm, y1.norm] by
    rw [Ex.norm, fixE, hop, normL, normL, normL, if_neg (by decide), if_neg (by decide)]
    show (if (true && Op.bytesLess y1.norm.print y0.norm.print) = true then _ else _) = _
    rw [hlt]; rfl)
  have HLT := Lib.hid (show Op.bytesLess (bsB y1.norm.print).toList (bsB y0.norm.print).toList = false by rw [ByteArray.toList_eq, ByteArray.toList_eq]; exact hlt)
  have b13 : (op == 13) = false := by rw [hop]; rfl
  have b14 : (op == 14) = false := by rw [hop]; rfl
  have b4 : (op == 4) = true := by rw [hop]; rfl
  clear hop hlt
  obtain ⟨W1, hW1⟩ : ∃ W, W = w.alloc (.cells (exCells op v rel col n s q 2 c).toArray 26) := ⟨_, rfl⟩
  have E0 : XB W1 w.heap.size ⟨op, v, rel, col, n, s, q, 2, c⟩ := by rw [hW1]; exact XB.new w ⟨op, v, rel, col, n, s, q, 2, c⟩ _
  have z1 : W1.heap.size = w.heap.size + 1 := by rw [hW1]; simp
  obtain ⟨W, hW⟩ : ∃ W, W = W1.alloc (.cells rawZ.cells.toArray 26) := ⟨_, rfl⟩
  have b1 : Below W1.heap.size W1 W := by rw [hW]; (repeat (first | exact ext_refl _ | assumption | (refine ext_alloc ?_ _) | (refine ext_drewN ?_ _) | refine ext_drew ?_ | (refine ext_set (by first | (simp; done) | (simp; omega)) _ ?_) | (refine ext_trans ?_ (by assumption))))
  have E1 := E0.on b1
  have E2 : XB W (w.heap.size + 1) rawZ := by rw [hW, ← z1]; exact XB.new W1 rawZ _
  have b : Below w.heap.size w W := by rw [hW, hW1]; (repeat (first | exact ext_refl _ | assumption | (refine ext_alloc ?_ _) | (refine ext_drewN ?_ _) | refine ext_drew ?_ | (refine ext_set (by first | (simp; done) | (simp; omega)) _ ?_) | (refine ext_trans ?_ (by assumption))))
  have z2 : W.heap.size = w.heap.size + 2 := by rw [hW]; simp [z1]
  have HWW := Lib.hid (show W = (w.alloc (.cells (exCells op v rel col n s q 2 c).toArray 26)).alloc (.cells rawZ.cells.toArray 26) by rw [hW, hW1])
  clear hW hW1 E0 z1 b1
  go_enter Tryd.func23, Tryd.ntmps23
  go_upto_region 1 with fail
  change Code.wp _ _ _ _ ((w.alloc (.cells (exCells op v rel col n s q 2 c).toArray 26)).alloc (.cells rawZ.cells.toArray 26))
  rw [← HWW.out]
  clear HWW
  obtain ⟨g, hg⟩ : ∃ g, g = w.heap.size := ⟨_, rfl⟩
  have HGW := Lib.hid hg
  rw [← hg] at E1 E2 z2 ⊢
  have HB := Lib.hid b
  have HE1 := Lib.hid E1
  have HE2 := Lib.hid E2
  have HZ2 := Lib.hid z2
  clear hg b z2 E2
  have lt := E1.lt
  have c8 := E1.c 8 _ rfl
  clear E1
  simp only at c8
  have HC : Calls Tryd.prog 38 #[.slice q 2 c, .func (.func 23) #[] #[]] W fun e w' => (∃ ql cl, e = .returned (.slice ql 2 cl) ∧ OwnX w' W.heap.size (fun k => W.heap.size ≤ k) (.slice ql 2 cl) [y0.norm, y1.norm]) ∧ Below W.heap.size W w' := by
    have h := changed_any 23 [] Ex.norm [y0, y1] q c W (ExL.ext HB.out _ _ _ HL.out) (show 2 * 104 ≤ 140737488355328 by decide) (fun y hy W' cs hb hM => HI.out y hy W' cs hM (HG.out.on (HB.out.trans (hb.mono HB.out.size))) (HR.out y hy)) Tryd.enterNormal
    rw [show ([y0, y1] : List Ex).length = 2 from rfl] at h
    refine h.mono ?_
    rintro e W' ⟨⟨vl, rfl, hO⟩, hb⟩
    obtain ⟨ql, cl, rfl, -, -, -⟩ := hO.toL
    rw [List.length_map, show ([y0, y1] : List Ex).length = 2 from rfl] at hO ⊢
    exact ⟨⟨ql, cl, rfl, hO⟩, hb⟩
  have HC := Lib.hid HC
  go_upto_region 2 with (go_at_call 38; (refine HC.out.mono ?_; rintro e X ⟨⟨ql, cl, rfl, hO⟩, hbX⟩; have HO := Lib.hid hO; have HBX := Lib.hid hbX; have HE1X := HE1.out.on hbX; have hgX := HE1X.lt; have fgX := HE1X.fz; have e8 := HE1X.c 8 _ rfl; simp only at e8; clear hO hbX HE1X lt c8))
  have hQ := NQ.start rfl HB.out HE1.out HE2.out HGW.out HZ2.out HBX.out HO.out
  simp only at hQ
  obtain ⟨N, hN⟩ : ∃ N, N = X.setCell ⟨g, 8, none⟩ (.slice ql 2 cl) := ⟨_, rfl⟩
  rw [← hN] at hQ ⊢
  have HGN := Lib.hid (HG.out.on hQ.b)
  have HQ := Lib.hid hQ
  clear hN hgX fgX e8 HO HBX HC HE1 HE2 HB HZ2 HI
  obtain ⟨lt, cc, fz⟩ := hQ.x1
  obtain ⟨gl, cl', r0, r1, e2, hbg, hgl, hE, hp0, hp1⟩ := OwnX.two hQ.o
  simp only [Value.slice.injEq, true_and] at e2
  obtain ⟨rfl, rfl⟩ := e2
  have e0 := fun k u hu => OwnF.cellAt RawE.cells_len hE (j := 0) (x := r0) rfl (k := k) (u := u) hu
  have e1 := fun k u hu => OwnF.cellAt RawE.cells_len hE (j := 1) (x := r1) rfl (k := k) (u := u) hu
  obtain ⟨op0, ⟨vk0, vn0, vs0⟩, rel0, col0, nn0, s0, q0, len0, cc0⟩ := r0
  obtain ⟨op1, ⟨vk1, vn1, vs1⟩, rel1, col1, nn1, s1, q1, len1, cc1⟩ := r1
  have f0 := (e0 0 _ rfl).1
  have f1 := (e0 1 _ rfl).1
  have f2 := (e0 2 _ rfl).1
  have f3 := (e0 3 _ rfl).1
  have f4 := (e0 4 _ rfl).1
  have f5 := (e0 5 _ rfl).1
  have f6 := (e0 6 _ rfl).1
  have f7 := (e0 7 _ rfl).1
  have f8 := (e0 8 _ rfl).1
  have h0 := (e1 0 _ rfl).1
  have h1 := (e1 1 _ rfl).1
  have h2 := (e1 2 _ rfl).1
  have h3 := (e1 3 _ rfl).1
  have h4 := (e1 4 _ rfl).1
  have h5 := (e1 5 _ rfl).1
  have h6 := (e1 6 _ rfl).1
  have h7 := (e1 7 _ rfl).1
  have h8 := (e1 8 _ rfl).1
  simp only [Nat.zero_mul, Nat.one_mul, Nat.zero_add, Nat.add_zero, Nat.reduceAdd] at f0 f1 f2 f3 f4 f5 f6 f7 f8 h0 h1 h2 h3 h4 h5 h6 h7 h8
  clear e0 e1
  have HM0 := Lib.hid (ExMP.toM _ _ hp0)
  have HM1 := Lib.hid (ExMP.toM _ _ hp1)
  have HT0 := Lib.hid (fun (x : After N) => calls_after (text_any y0.norm _ x.W (ExM.ext x.below _ _ HM0.out) (HGN.out.on x.below) (by rw [norm_right]; exact HR.out y0 (by simp))))
  have HT1 := Lib.hid (fun (x : After N) => calls_after (text_any y1.norm _ x.W (ExM.ext x.below _ _ HM1.out) (HGN.out.on x.below) (by rw [norm_right]; exact HR.out y1 (by simp))))
  obtain ⟨P0, hP0⟩ : ∃ P, P = bsB y0.norm.print := ⟨_, rfl⟩
  obtain ⟨P1, hP1⟩ : ∃ P, P = bsB y1.norm.print := ⟨_, rfl⟩
  rw [← hP0] at HT0 HLT
  rw [← hP1] at HT1 HLT
  clear hP0 hP1
  have c0 := cc 0 _ rfl
  have c1 := cc 1 _ rfl
  have c2 := cc 2 _ rfl
  have c3 := cc 3 _ rfl
  have c4 := cc 4 _ rfl
  have c5 := cc 5 _ rfl
  have c6 := cc 6 _ rfl
  have c7 := cc 7 _ rfl
  have c8 := cc 8 _ rfl
  simp only at c0 c1 c2 c3 c4 c5 c6 c7 c8
  clear cc
  clear hE hp0 hp1 hQ c1 c2 c3 c4 c5 c6 c7
  go_upto_region 15 with fail
  have rc := fun (x : After N) => (x.cell g 8 lt).trans c8
  have rf0 := fun (x : After N) => (x.cell gl 0 hgl).trans f0
  have rf1 := fun (x : After N) => (x.cell gl 1 hgl).trans f1
  have rf2 := fun (x : After N) => (x.cell gl 2 hgl).trans f2
  have rf3 := fun (x : After N) => (x.cell gl 3 hgl).trans f3
  have rf4 := fun (x : After N) => (x.cell gl 4 hgl).trans f4
  have rf5 := fun (x : After N) => (x.cell gl 5 hgl).trans f5
  have rf6 := fun (x : After N) => (x.cell gl 6 hgl).trans f6
  have rf7 := fun (x : After N) => (x.cell gl 7 hgl).trans f7
  have rf8 := fun (x : After N) => (x.cell gl 8 hgl).trans f8
  have rh0 := fun (x : After N) => (x.cell gl 9 hgl).trans h0
  have rh1 := fun (x : After N) => (x.cell gl 10 hgl).trans h1
  have rh2 := fun (x : After N) => (x.cell gl 11 hgl).trans h2
  have rh3 := fun (x : After N) => (x.cell gl 12 hgl).trans h3
  have rh4 := fun (x : After N) => (x.cell gl 13 hgl).trans h4
  have rh5 := fun (x : After N) => (x.cell gl 14 hgl).trans h5
  have rh6 := fun (x : After N) => (x.cell gl 15 hgl).trans h6
  have rh7 := fun (x : After N) => (x.cell gl 16 hgl).trans h7
  have rh8 := fun (x : After N) => (x.cell gl 17 hgl).trans h8
  clear c0 c8 fz f0 f1 f2 f3 f4 f5 f6 f7 f8 h0 h1 h2 h3 h4 h5 h6 h7 h8
  have is := After.some N
  refine wp_region_after (by kernel_rfl) (by kernel_rfl) ?_
  repeat (quiet_step ((go_at_call 40; first | with_reducible exact HT0.out _ | with_reducible exact HT1.out _)))
  refine wpQuiet_nil ?_
  intro Wq hw
  obtain ⟨⟨Wq, hbq⟩, rfl⟩ := hw
  have HQ1 := Lib.hid (HQ.out.on hbq)
  clear lt rc rf0 rf1 rf2 rf3 rf4 rf5 rf6 rf7 rf8 rh0 rh1 rh2 rh3 rh4 rh5 rh6 rh7 rh8 HT0 HT1 hbq hgl hbg is
  rw [HLT.out]
  obtain ⟨lt, cc, fz⟩ := HQ1.out.x1
  have c0 := cc 0 _ rfl
  have c1 := cc 1 _ rfl
  have c2 := cc 2 _ rfl
  have c3 := cc 3 _ rfl
  have c4 := cc 4 _ rfl
  have c5 := cc 5 _ rfl
  have c6 := cc 6 _ rfl
  have c7 := cc 7 _ rfl
  have c8 := cc 8 _ rfl
  simp only at c0 c1 c2 c3 c4 c5 c6 c7 c8
  clear cc
  obtain ⟨ltR, cR, fR⟩ := HQ1.out.x2
  have d0 := cR 0 _ rfl
  have d1 := cR 1 _ rfl
  have d2 := cR 2 _ rfl
  have d3 := cR 3 _ rfl
  have d4 := cR 4 _ rfl
  have d5 := cR 5 _ rfl
  have d6 := cR 6 _ rfl
  have d7 := cR 7 _ rfl
  have d8 := cR 8 _ rfl
  clear cR
  go_wp2_with fail
  change bodyPost _ _ _ _ _ (setE Wq (g + 1) 0 ⟨op, v, rel, col, n, s, (some ⟨gl, 0, none⟩), 2, cl⟩)
  obtain ⟨hbQ, ⟨-, cQ, -⟩, hP⟩ := HQ1.out.done HV.out rfl rfl
  obtain ⟨Q, hQQ⟩ : ∃ Q, Q = setE Wq (g + 1) 0 ⟨op, v, rel, col, n, s, (some ⟨gl, 0, none⟩), 2, cl⟩ := ⟨_, rfl⟩
  rw [← hQQ] at hbQ cQ hP
  rw [← hQQ]
  have q0 := cQ 0 _ rfl
  have q1 := cQ 1 _ rfl
  have q2 := cQ 2 _ rfl
  have q3 := cQ 3 _ rfl
  have q4 := cQ 4 _ rfl
  have q5 := cQ 5 _ rfl
  have q6 := cQ 6 _ rfl
  have q7 := cQ 7 _ rfl
  have q8 := cQ 8 _ rfl
  clear hQQ cQ
  simp only at q0 q1 q2 q3 q4 q5 q6 q7 q8
  refine bodyPost_ret (v := .agg (exCells op v rel col n s (some ⟨gl, 0, none⟩) 2 cl).toArray) (by simp [results, Tryd.results23, go_sem, q0, q1, q2, q3, q4, q5, q6, q7, q8]) rfl ⟨⟨_, rfl, ?_⟩, hbQ⟩
  rw [HNRM.out]
  exact hP
set_option maxHeartbeats 8000000 in
theorem normC_4s (op : Int) (v : Val) (rel col n : Int) (s : ByteArray) (y0 y1 : Ex) (hop : op = 4) (hlt : Op.bytesLess y1.norm.print y0.norm.print = true) (IH : ∀ y ∈ [y0, y1], NormC y) : NormC (.mk op v rel col n s [y0, y1]) := by
  intro w cs hx hG hr
  have HR := Lib.hid (right_op hr).2
  have HI := Lib.hid IH
  have HG := Lib.hid hG
  rw [ExM.iff] at hx
  obtain ⟨hv, q, c, rfl, -, hl⟩ := hx
  have HV := Lib.hid hv
  have HL := Lib.hid hl
  clear hv hl hr IH hG
  have HNRM := Lib.hid (show (Ex.mk op v rel col n s [y0, y1]).norm = .mk op v rel col n s [y1.norm, y0.norm] by
    rw [Ex.norm, fixE, hop, normL, normL, normL, if_neg (by decide), if_neg (by decide)]
    show (if (true && Op.bytesLess y1.norm.print y0.norm.print) = true then _ else _) = _
    rw [hlt]; rfl)
  have HLT := Lib.hid (show Op.bytesLess (bsB y1.norm.print).toList (bsB y0.norm.print).toList = true by rw [ByteArray.toList_eq, ByteArray.toList_eq]; exact hlt)
  have b13 : (op == 13) = false := by rw [hop]; rfl
  have b14 : (op == 14) = false := by rw [hop]; rfl
  have b4 : (op == 4) = true := by rw [hop]; rfl
  clear hop hlt
  obtain ⟨W1, hW1⟩ : ∃ W, W = w.alloc (.cells (exCells op v rel col n s q 2 c).toArray 26) := ⟨_, rfl⟩
  have E0 : XB W1 w.heap.size ⟨op, v, rel, col, n, s, q, 2, c⟩ := by rw [hW1]; exact XB.new w ⟨op, v, rel, col, n, s, q, 2, c⟩ _
  have z1 : W1.heap.size = w.heap.size + 1 := by rw [hW1]; simp
  obtain ⟨W, hW⟩ : ∃ W, W = W1.alloc (.cells rawZ.cells.toArray 26) := ⟨_, rfl⟩
  have b1 : Below W1.heap.size W1 W := by rw [hW]; (repeat (first | exact ext_refl _ | assumption | (refine ext_alloc ?_ _) | (refine ext_drewN ?_ _) | refine ext_drew ?_ | (refine ext_set (by first | (simp; done) | (simp; omega)) _ ?_) | (refine ext_trans ?_ (by assumption))))
  have E1 := E0.on b1
  have E2 : XB W (w.heap.size + 1) rawZ := by rw [hW, ← z1]; exact XB.new W1 rawZ _
  have b : Below w.heap.size w W := by rw [hW, hW1]; (repeat (first | exact ext_refl _ | assumption | (refine ext_alloc ?_ _) | (refine ext_drewN ?_ _) | refine ext_drew ?_ | (refine ext_set (by first | (simp; done) | (simp; omega)) _ ?_) | (refine ext_trans ?_ (by assumption))))
  have z2 : W.heap.size = w.heap.size + 2 := by rw [hW]; simp [z1]
  have HWW := Lib.hid (show W = (w.alloc (.cells (exCells op v rel col n s q 2 c).toArray 26)).alloc (.cells rawZ.cells.toArray 26) by rw [hW, hW1])
  clear hW hW1 E0 z1 b1
  go_enter Tryd.func23, Tryd.ntmps23
  go_upto_region 1 with fail
  change Code.wp _ _ _ _ ((w.alloc (.cells (exCells op v rel col n s q 2 c).toArray 26)).alloc (.cells rawZ.cells.toArray 26))
  rw [← HWW.out]
  clear HWW
  obtain ⟨g, hg⟩ : ∃ g, g = w.heap.size := ⟨_, rfl⟩
  have HGW := Lib.hid hg
  rw [← hg] at E1 E2 z2 ⊢
  have HB := Lib.hid b
  have HE1 := Lib.hid E1
  have HE2 := Lib.hid E2
  have HZ2 := Lib.hid z2
  clear hg b z2 E2
  have lt := E1.lt
  have c8 := E1.c 8 _ rfl
  clear E1
  simp only at c8
  have HC : Calls Tryd.prog 38 #[.slice q 2 c, .func (.func 23) #[] #[]] W fun e w' => (∃ ql cl, e = .returned (.slice ql 2 cl) ∧ OwnX w' W.heap.size (fun k => W.heap.size ≤ k) (.slice ql 2 cl) [y0.norm, y1.norm]) ∧ Below W.heap.size W w' := by
    have h := changed_any 23 [] Ex.norm [y0, y1] q c W (ExL.ext HB.out _ _ _ HL.out) (show 2 * 104 ≤ 140737488355328 by decide) (fun y hy W' cs hb hM => HI.out y hy W' cs hM (HG.out.on (HB.out.trans (hb.mono HB.out.size))) (HR.out y hy)) Tryd.enterNormal
    rw [show ([y0, y1] : List Ex).length = 2 from rfl] at h
    refine h.mono ?_
    rintro e W' ⟨⟨vl, rfl, hO⟩, hb⟩
    obtain ⟨ql, cl, rfl, -, -, -⟩ := hO.toL
    rw [List.length_map, show ([y0, y1] : List Ex).length = 2 from rfl] at hO ⊢
    exact ⟨⟨ql, cl, rfl, hO⟩, hb⟩
  have HC := Lib.hid HC
  go_upto_region 2 with (go_at_call 38; (refine HC.out.mono ?_; rintro e X ⟨⟨ql, cl, rfl, hO⟩, hbX⟩; have HO := Lib.hid hO; have HBX := Lib.hid hbX; have HE1X := HE1.out.on hbX; have hgX := HE1X.lt; have fgX := HE1X.fz; have e8 := HE1X.c 8 _ rfl; simp only at e8; clear hO hbX HE1X lt c8))
  have hQ := NQ.start rfl HB.out HE1.out HE2.out HGW.out HZ2.out HBX.out HO.out
  simp only at hQ
  obtain ⟨N, hN⟩ : ∃ N, N = X.setCell ⟨g, 8, none⟩ (.slice ql 2 cl) := ⟨_, rfl⟩
  rw [← hN] at hQ ⊢
  have HGN := Lib.hid (HG.out.on hQ.b)
  have HQ := Lib.hid hQ
  clear hN hgX fgX e8 HO HBX HC HE1 HE2 HB HZ2 HI
  obtain ⟨lt, cc, fz⟩ := hQ.x1
  obtain ⟨gl, cl', r0, r1, e2, hbg, hgl, hE, hp0, hp1⟩ := OwnX.two hQ.o
  simp only [Value.slice.injEq, true_and] at e2
  obtain ⟨rfl, rfl⟩ := e2
  have e0 := fun k u hu => OwnF.cellAt RawE.cells_len hE (j := 0) (x := r0) rfl (k := k) (u := u) hu
  have e1 := fun k u hu => OwnF.cellAt RawE.cells_len hE (j := 1) (x := r1) rfl (k := k) (u := u) hu
  obtain ⟨op0, ⟨vk0, vn0, vs0⟩, rel0, col0, nn0, s0, q0, len0, cc0⟩ := r0
  obtain ⟨op1, ⟨vk1, vn1, vs1⟩, rel1, col1, nn1, s1, q1, len1, cc1⟩ := r1
  have f0 := (e0 0 _ rfl).1
  have f1 := (e0 1 _ rfl).1
  have f2 := (e0 2 _ rfl).1
  have f3 := (e0 3 _ rfl).1
  have f4 := (e0 4 _ rfl).1
  have f5 := (e0 5 _ rfl).1
  have f6 := (e0 6 _ rfl).1
  have f7 := (e0 7 _ rfl).1
  have f8 := (e0 8 _ rfl).1
  have h0 := (e1 0 _ rfl).1
  have h1 := (e1 1 _ rfl).1
  have h2 := (e1 2 _ rfl).1
  have h3 := (e1 3 _ rfl).1
  have h4 := (e1 4 _ rfl).1
  have h5 := (e1 5 _ rfl).1
  have h6 := (e1 6 _ rfl).1
  have h7 := (e1 7 _ rfl).1
  have h8 := (e1 8 _ rfl).1
  simp only [Nat.zero_mul, Nat.one_mul, Nat.zero_add, Nat.add_zero, Nat.reduceAdd] at f0 f1 f2 f3 f4 f5 f6 f7 f8 h0 h1 h2 h3 h4 h5 h6 h7 h8
  clear e0 e1
  have HM0 := Lib.hid (ExMP.toM _ _ hp0)
  have HM1 := Lib.hid (ExMP.toM _ _ hp1)
  have HT0 := Lib.hid (fun (x : After N) => calls_after (text_any y0.norm _ x.W (ExM.ext x.below _ _ HM0.out) (HGN.out.on x.below) (by rw [norm_right]; exact HR.out y0 (by simp))))
  have HT1 := Lib.hid (fun (x : After N) => calls_after (text_any y1.norm _ x.W (ExM.ext x.below _ _ HM1.out) (HGN.out.on x.below) (by rw [norm_right]; exact HR.out y1 (by simp))))
  obtain ⟨P0, hP0⟩ : ∃ P, P = bsB y0.norm.print := ⟨_, rfl⟩
  obtain ⟨P1, hP1⟩ : ∃ P, P = bsB y1.norm.print := ⟨_, rfl⟩
  rw [← hP0] at HT0 HLT
  rw [← hP1] at HT1 HLT
  clear hP0 hP1
  have c0 := cc 0 _ rfl
  have c1 := cc 1 _ rfl
  have c2 := cc 2 _ rfl
  have c3 := cc 3 _ rfl
  have c4 := cc 4 _ rfl
  have c5 := cc 5 _ rfl
  have c6 := cc 6 _ rfl
  have c7 := cc 7 _ rfl
  have c8 := cc 8 _ rfl
  simp only at c0 c1 c2 c3 c4 c5 c6 c7 c8
  clear cc
  clear hE hp0 hp1 hQ c1 c2 c3 c4 c5 c6 c7
  go_upto_region 15 with fail
  have rc := fun (x : After N) => (x.cell g 8 lt).trans c8
  have rf0 := fun (x : After N) => (x.cell gl 0 hgl).trans f0
  have rf1 := fun (x : After N) => (x.cell gl 1 hgl).trans f1
  have rf2 := fun (x : After N) => (x.cell gl 2 hgl).trans f2
  have rf3 := fun (x : After N) => (x.cell gl 3 hgl).trans f3
  have rf4 := fun (x : After N) => (x.cell gl 4 hgl).trans f4
  have rf5 := fun (x : After N) => (x.cell gl 5 hgl).trans f5
  have rf6 := fun (x : After N) => (x.cell gl 6 hgl).trans f6
  have rf7 := fun (x : After N) => (x.cell gl 7 hgl).trans f7
  have rf8 := fun (x : After N) => (x.cell gl 8 hgl).trans f8
  have rh0 := fun (x : After N) => (x.cell gl 9 hgl).trans h0
  have rh1 := fun (x : After N) => (x.cell gl 10 hgl).trans h1
  have rh2 := fun (x : After N) => (x.cell gl 11 hgl).trans h2
  have rh3 := fun (x : After N) => (x.cell gl 12 hgl).trans h3
  have rh4 := fun (x : After N) => (x.cell gl 13 hgl).trans h4
  have rh5 := fun (x : After N) => (x.cell gl 14 hgl).trans h5
  have rh6 := fun (x : After N) => (x.cell gl 15 hgl).trans h6
  have rh7 := fun (x : After N) => (x.cell gl 16 hgl).trans h7
  have rh8 := fun (x : After N) => (x.cell gl 17 hgl).trans h8
  clear c0 c8 fz f0 f1 f2 f3 f4 f5 f6 f7 f8 h0 h1 h2 h3 h4 h5 h6 h7 h8
  have is := After.some N
  refine wp_region_after (by kernel_rfl) (by kernel_rfl) ?_
  repeat (quiet_step ((go_at_call 40; first | with_reducible exact HT0.out _ | with_reducible exact HT1.out _)))
  refine wpQuiet_nil ?_
  intro Wq hw
  obtain ⟨⟨Wq, hbq⟩, rfl⟩ := hw
  have HQ1 := Lib.hid (HQ.out.on hbq)
  clear lt rc rf0 rf1 rf2 rf3 rf4 rf5 rf6 rf7 rf8 rh0 rh1 rh2 rh3 rh4 rh5 rh6 rh7 rh8 HT0 HT1 hbq hgl hbg is
  rw [HLT.out]
  obtain ⟨lt, cc, fz⟩ := HQ1.out.x1
  have c0 := cc 0 _ rfl
  have c1 := cc 1 _ rfl
  have c2 := cc 2 _ rfl
  have c3 := cc 3 _ rfl
  have c4 := cc 4 _ rfl
  have c5 := cc 5 _ rfl
  have c6 := cc 6 _ rfl
  have c7 := cc 7 _ rfl
  have c8 := cc 8 _ rfl
  simp only at c0 c1 c2 c3 c4 c5 c6 c7 c8
  clear cc
  obtain ⟨gl2, cl2, s0, s1, e3, hbg2, -, hE2, hs0, hs1⟩ := OwnX.two HQ1.out.o
  simp only [Value.slice.injEq, Option.some.injEq, Addr.mk.injEq, and_true, true_and] at e3
  obtain ⟨rfl, rfl⟩ := e3
  have HX := Lib.hid (exchange_any (g + 2) gl cl s0 s1 Wq hE2)
  have HH := Lib.hid (And.intro hbg2 (And.intro hs0 hs1))
  clear hE2 hs0 hs1 hbg2
  go_upto_region 17 with (go_at_call 39; (refine HX.out.mono ?_; rintro e N2 ⟨rfl, hEE, hoo⟩; have HQ2 := Lib.hid (HQ1.out.swap HH.out.1 HH.out.2.1 HH.out.2.2 hEE hoo); clear hEE hoo))
  clear c0 c1 c2 c3 c4 c5 c6 c7 c8 fz lt
  obtain ⟨lt, cc, fz⟩ := HQ2.out.x1
  have c0 := cc 0 _ rfl
  have c1 := cc 1 _ rfl
  have c2 := cc 2 _ rfl
  have c3 := cc 3 _ rfl
  have c4 := cc 4 _ rfl
  have c5 := cc 5 _ rfl
  have c6 := cc 6 _ rfl
  have c7 := cc 7 _ rfl
  have c8 := cc 8 _ rfl
  simp only at c0 c1 c2 c3 c4 c5 c6 c7 c8
  clear cc
  obtain ⟨ltR, cR, fR⟩ := HQ2.out.x2
  have d0 := cR 0 _ rfl
  have d1 := cR 1 _ rfl
  have d2 := cR 2 _ rfl
  have d3 := cR 3 _ rfl
  have d4 := cR 4 _ rfl
  have d5 := cR 5 _ rfl
  have d6 := cR 6 _ rfl
  have d7 := cR 7 _ rfl
  have d8 := cR 8 _ rfl
  clear cR
  go_wp2_with fail
  change bodyPost _ _ _ _ _ (setE N2 (g + 1) 0 ⟨op, v, rel, col, n, s, (some ⟨gl, 0, none⟩), 2, cl⟩)
  obtain ⟨hbQ, ⟨-, cQ, -⟩, hP⟩ := HQ2.out.done HV.out rfl rfl
  obtain ⟨Q, hQQ⟩ : ∃ Q, Q = setE N2 (g + 1) 0 ⟨op, v, rel, col, n, s, (some ⟨gl, 0, none⟩), 2, cl⟩ := ⟨_, rfl⟩
  rw [← hQQ] at hbQ cQ hP
  rw [← hQQ]
  have q0 := cQ 0 _ rfl
  have q1 := cQ 1 _ rfl
  have q2 := cQ 2 _ rfl
  have q3 := cQ 3 _ rfl
  have q4 := cQ 4 _ rfl
  have q5 := cQ 5 _ rfl
  have q6 := cQ 6 _ rfl
  have q7 := cQ 7 _ rfl
  have q8 := cQ 8 _ rfl
  clear hQQ cQ
  simp only at q0 q1 q2 q3 q4 q5 q6 q7 q8
  refine bodyPost_ret (v := .agg (exCells op v rel col n s (some ⟨gl, 0, none⟩) 2 cl).toArray) (by simp [results, Tryd.results23, go_sem, q0, q1, q2, q3, q4, q5, q6, q7, q8]) rfl ⟨⟨_, rfl, ?_⟩, hbQ⟩
  rw [HNRM.out]
  exact hP
set_option maxHeartbeats 8000000 in
theorem normC_6 (op : Int) (v : Val) (rel col n : Int) (s : ByteArray) (y0 y1 : Ex) (hop : op = 6) (hlt : Op.bytesLess y1.norm.print y0.norm.print = false) (IH : ∀ y ∈ [y0, y1], NormC y) : NormC (.mk op v rel col n s [y0, y1]) := by
  intro w cs hx hG hr
  have HR := Lib.hid (right_op hr).2
  have HI := Lib.hid IH
  have HG := Lib.hid hG
  rw [ExM.iff] at hx
  obtain ⟨hv, q, c, rfl, -, hl⟩ := hx
  have HV := Lib.hid hv
  have HL := Lib.hid hl
  clear hv hl hr IH hG
  have HNRM := Lib.hid (show (Ex.mk op v rel col n s [y0, y1]).norm = .mk op v rel col n s [y0.norm, y1.norm] by
    rw [Ex.norm, fixE, hop, normL, normL, normL, if_neg (by decide), if_neg (by decide)]
    show (if (true && Op.bytesLess y1.norm.print y0.norm.print) = true then _ else _) = _
    rw [hlt]; rfl)
  have HLT := Lib.hid (show Op.bytesLess (bsB y1.norm.print).toList (bsB y0.norm.print).toList = false by rw [ByteArray.toList_eq, ByteArray.toList_eq]; exact hlt)
  have b13 : (op == 13) = false := by rw [hop]; rfl
  have b14 : (op == 14) = false := by rw [hop]; rfl
  have b4 : (op == 4) = false := by rw [hop]; rfl
  have b6 : (op == 6) = true := by rw [hop]; rfl
  clear hop hlt
  obtain ⟨W1, hW1⟩ : ∃ W, W = w.alloc (.cells (exCells op v rel col n s q 2 c).toArray 26) := ⟨_, rfl⟩
  have E0 : XB W1 w.heap.size ⟨op, v, rel, col, n, s, q, 2, c⟩ := by rw [hW1]; exact XB.new w ⟨op, v, rel, col, n, s, q, 2, c⟩ _
  have z1 : W1.heap.size = w.heap.size + 1 := by rw [hW1]; simp
  obtain ⟨W, hW⟩ : ∃ W, W = W1.alloc (.cells rawZ.cells.toArray 26) := ⟨_, rfl⟩
  have b1 : Below W1.heap.size W1 W := by rw [hW]; (repeat (first | exact ext_refl _ | assumption | (refine ext_alloc ?_ _) | (refine ext_drewN ?_ _) | refine ext_drew ?_ | (refine ext_set (by first | (simp; done) | (simp; omega)) _ ?_) | (refine ext_trans ?_ (by assumption))))
  have E1 := E0.on b1
  have E2 : XB W (w.heap.size + 1) rawZ := by rw [hW, ← z1]; exact XB.new W1 rawZ _
  have b : Below w.heap.size w W := by rw [hW, hW1]; (repeat (first | exact ext_refl _ | assumption | (refine ext_alloc ?_ _) | (refine ext_drewN ?_ _) | refine ext_drew ?_ | (refine ext_set (by first | (simp; done) | (simp; omega)) _ ?_) | (refine ext_trans ?_ (by assumption))))
  have z2 : W.heap.size = w.heap.size + 2 := by rw [hW]; simp [z1]
  have HWW := Lib.hid (show W = (w.alloc (.cells (exCells op v rel col n s q 2 c).toArray 26)).alloc (.cells rawZ.cells.toArray 26) by rw [hW, hW1])
  clear hW hW1 E0 z1 b1
  go_enter Tryd.func23, Tryd.ntmps23
  go_upto_region 1 with fail
  change Code.wp _ _ _ _ ((w.alloc (.cells (exCells op v rel col n s q 2 c).toArray 26)).alloc (.cells rawZ.cells.toArray 26))
  rw [← HWW.out]
  clear HWW
  obtain ⟨g, hg⟩ : ∃ g, g = w.heap.size := ⟨_, rfl⟩
  have HGW := Lib.hid hg
  rw [← hg] at E1 E2 z2 ⊢
  have HB := Lib.hid b
  have HE1 := Lib.hid E1
  have HE2 := Lib.hid E2
  have HZ2 := Lib.hid z2
  clear hg b z2 E2
  have lt := E1.lt
  have c8 := E1.c 8 _ rfl
  clear E1
  simp only at c8
  have HC : Calls Tryd.prog 38 #[.slice q 2 c, .func (.func 23) #[] #[]] W fun e w' => (∃ ql cl, e = .returned (.slice ql 2 cl) ∧ OwnX w' W.heap.size (fun k => W.heap.size ≤ k) (.slice ql 2 cl) [y0.norm, y1.norm]) ∧ Below W.heap.size W w' := by
    have h := changed_any 23 [] Ex.norm [y0, y1] q c W (ExL.ext HB.out _ _ _ HL.out) (show 2 * 104 ≤ 140737488355328 by decide) (fun y hy W' cs hb hM => HI.out y hy W' cs hM (HG.out.on (HB.out.trans (hb.mono HB.out.size))) (HR.out y hy)) Tryd.enterNormal
    rw [show ([y0, y1] : List Ex).length = 2 from rfl] at h
    refine h.mono ?_
    rintro e W' ⟨⟨vl, rfl, hO⟩, hb⟩
    obtain ⟨ql, cl, rfl, -, -, -⟩ := hO.toL
    rw [List.length_map, show ([y0, y1] : List Ex).length = 2 from rfl] at hO ⊢
    exact ⟨⟨ql, cl, rfl, hO⟩, hb⟩
  have HC := Lib.hid HC
  go_upto_region 2 with (go_at_call 38; (refine HC.out.mono ?_; rintro e X ⟨⟨ql, cl, rfl, hO⟩, hbX⟩; have HO := Lib.hid hO; have HBX := Lib.hid hbX; have HE1X := HE1.out.on hbX; have hgX := HE1X.lt; have fgX := HE1X.fz; have e8 := HE1X.c 8 _ rfl; simp only at e8; clear hO hbX HE1X lt c8))
  have hQ := NQ.start rfl HB.out HE1.out HE2.out HGW.out HZ2.out HBX.out HO.out
  simp only at hQ
  obtain ⟨N, hN⟩ : ∃ N, N = X.setCell ⟨g, 8, none⟩ (.slice ql 2 cl) := ⟨_, rfl⟩
  rw [← hN] at hQ ⊢
  have HGN := Lib.hid (HG.out.on hQ.b)
  have HQ := Lib.hid hQ
  clear hN hgX fgX e8 HO HBX HC HE1 HE2 HB HZ2 HI
  obtain ⟨lt, cc, fz⟩ := hQ.x1
  obtain ⟨gl, cl', r0, r1, e2, hbg, hgl, hE, hp0, hp1⟩ := OwnX.two hQ.o
  simp only [Value.slice.injEq, true_and] at e2
  obtain ⟨rfl, rfl⟩ := e2
  have e0 := fun k u hu => OwnF.cellAt RawE.cells_len hE (j := 0) (x := r0) rfl (k := k) (u := u) hu
  have e1 := fun k u hu => OwnF.cellAt RawE.cells_len hE (j := 1) (x := r1) rfl (k := k) (u := u) hu
  obtain ⟨op0, ⟨vk0, vn0, vs0⟩, rel0, col0, nn0, s0, q0, len0, cc0⟩ := r0
  obtain ⟨op1, ⟨vk1, vn1, vs1⟩, rel1, col1, nn1, s1, q1, len1, cc1⟩ := r1
  have f0 := (e0 0 _ rfl).1
  have f1 := (e0 1 _ rfl).1
  have f2 := (e0 2 _ rfl).1
  have f3 := (e0 3 _ rfl).1
  have f4 := (e0 4 _ rfl).1
  have f5 := (e0 5 _ rfl).1
  have f6 := (e0 6 _ rfl).1
  have f7 := (e0 7 _ rfl).1
  have f8 := (e0 8 _ rfl).1
  have h0 := (e1 0 _ rfl).1
  have h1 := (e1 1 _ rfl).1
  have h2 := (e1 2 _ rfl).1
  have h3 := (e1 3 _ rfl).1
  have h4 := (e1 4 _ rfl).1
  have h5 := (e1 5 _ rfl).1
  have h6 := (e1 6 _ rfl).1
  have h7 := (e1 7 _ rfl).1
  have h8 := (e1 8 _ rfl).1
  simp only [Nat.zero_mul, Nat.one_mul, Nat.zero_add, Nat.add_zero, Nat.reduceAdd] at f0 f1 f2 f3 f4 f5 f6 f7 f8 h0 h1 h2 h3 h4 h5 h6 h7 h8
  clear e0 e1
  have HM0 := Lib.hid (ExMP.toM _ _ hp0)
  have HM1 := Lib.hid (ExMP.toM _ _ hp1)
  have HT0 := Lib.hid (fun (x : After N) => calls_after (text_any y0.norm _ x.W (ExM.ext x.below _ _ HM0.out) (HGN.out.on x.below) (by rw [norm_right]; exact HR.out y0 (by simp))))
  have HT1 := Lib.hid (fun (x : After N) => calls_after (text_any y1.norm _ x.W (ExM.ext x.below _ _ HM1.out) (HGN.out.on x.below) (by rw [norm_right]; exact HR.out y1 (by simp))))
  obtain ⟨P0, hP0⟩ : ∃ P, P = bsB y0.norm.print := ⟨_, rfl⟩
  obtain ⟨P1, hP1⟩ : ∃ P, P = bsB y1.norm.print := ⟨_, rfl⟩
  rw [← hP0] at HT0 HLT
  rw [← hP1] at HT1 HLT
  clear hP0 hP1
  have c0 := cc 0 _ rfl
  have c1 := cc 1 _ rfl
  have c2 := cc 2 _ rfl
  have c3 := cc 3 _ rfl
  have c4 := cc 4 _ rfl
  have c5 := cc 5 _ rfl
  have c6 := cc 6 _ rfl
  have c7 := cc 7 _ rfl
  have c8 := cc 8 _ rfl
  simp only at c0 c1 c2 c3 c4 c5 c6 c7 c8
  clear cc
  clear hE hp0 hp1 hQ c1 c2 c3 c4 c5 c6 c7
  go_upto_region 15 with fail
  have rc := fun (x : After N) => (x.cell g 8 lt).trans c8
  have rf0 := fun (x : After N) => (x.cell gl 0 hgl).trans f0
  have rf1 := fun (x : After N) => (x.cell gl 1 hgl).trans f1
  have rf2 := fun (x : After N) => (x.cell gl 2 hgl).trans f2
  have rf3 := fun (x : After N) => (x.cell gl 3 hgl).trans f3
  have rf4 := fun (x : After N) => (x.cell gl 4 hgl).trans f4
  have rf5 := fun (x : After N) => (x.cell gl 5 hgl).trans f5
  have rf6 := fun (x : After N) => (x.cell gl 6 hgl).trans f6
  have rf7 := fun (x : After N) => (x.cell gl 7 hgl).trans f7
  have rf8 := fun (x : After N) => (x.cell gl 8 hgl).trans f8
  have rh0 := fun (x : After N) => (x.cell gl 9 hgl).trans h0
  have rh1 := fun (x : After N) => (x.cell gl 10 hgl).trans h1
  have rh2 := fun (x : After N) => (x.cell gl 11 hgl).trans h2
  have rh3 := fun (x : After N) => (x.cell gl 12 hgl).trans h3
  have rh4 := fun (x : After N) => (x.cell gl 13 hgl).trans h4
  have rh5 := fun (x : After N) => (x.cell gl 14 hgl).trans h5
  have rh6 := fun (x : After N) => (x.cell gl 15 hgl).trans h6
  have rh7 := fun (x : After N) => (x.cell gl 16 hgl).trans h7
  have rh8 := fun (x : After N) => (x.cell gl 17 hgl).trans h8
  clear c0 c8 fz f0 f1 f2 f3 f4 f5 f6 f7 f8 h0 h1 h2 h3 h4 h5 h6 h7 h8
  have is := After.some N
  refine wp_region_after (by kernel_rfl) (by kernel_rfl) ?_
  repeat (quiet_step ((go_at_call 40; first | with_reducible exact HT0.out _ | with_reducible exact HT1.out _)))
  refine wpQuiet_nil ?_
  intro Wq hw
  obtain ⟨⟨Wq, hbq⟩, rfl⟩ := hw
  have HQ1 := Lib.hid (HQ.out.on hbq)
  clear lt rc rf0 rf1 rf2 rf3 rf4 rf5 rf6 rf7 rf8 rh0 rh1 rh2 rh3 rh4 rh5 rh6 rh7 rh8 HT0 HT1 hbq hgl hbg is
  rw [HLT.out]
  obtain ⟨lt, cc, fz⟩ := HQ1.out.x1
  have c0 := cc 0 _ rfl
  have c1 := cc 1 _ rfl
  have c2 := cc 2 _ rfl
  have c3 := cc 3 _ rfl
  have c4 := cc 4 _ rfl
  have c5 := cc 5 _ rfl
  have c6 := cc 6 _ rfl
  have c7 := cc 7 _ rfl
  have c8 := cc 8 _ rfl
  simp only at c0 c1 c2 c3 c4 c5 c6 c7 c8
  clear cc
  obtain ⟨ltR, cR, fR⟩ := HQ1.out.x2
  have d0 := cR 0 _ rfl
  have d1 := cR 1 _ rfl
  have d2 := cR 2 _ rfl
  have d3 := cR 3 _ rfl
  have d4 := cR 4 _ rfl
  have d5 := cR 5 _ rfl
  have d6 := cR 6 _ rfl
  have d7 := cR 7 _ rfl
  have d8 := cR 8 _ rfl
  clear cR
  go_wp2_with fail
  change bodyPost _ _ _ _ _ (setE Wq (g + 1) 0 ⟨op, v, rel, col, n, s, (some ⟨gl, 0, none⟩), 2, cl⟩)
  obtain ⟨hbQ, ⟨-, cQ, -⟩, hP⟩ := HQ1.out.done HV.out rfl rfl
  obtain ⟨Q, hQQ⟩ : ∃ Q, Q = setE Wq (g + 1) 0 ⟨op, v, rel, col, n, s, (some ⟨gl, 0, none⟩), 2, cl⟩ := ⟨_, rfl⟩
  rw [← hQQ] at hbQ cQ hP
  rw [← hQQ]
  have q0 := cQ 0 _ rfl
  have q1 := cQ 1 _ rfl
  have q2 := cQ 2 _ rfl
  have q3 := cQ 3 _ rfl
  have q4 := cQ 4 _ rfl
  have q5 := cQ 5 _ rfl
  have q6 := cQ 6 _ rfl
  have q7 := cQ 7 _ rfl
  have q8 := cQ 8 _ rfl
  clear hQQ cQ
  simp only at q0 q1 q2 q3 q4 q5 q6 q7 q8
  refine bodyPost_ret (v := .agg (exCells op v rel col n s (some ⟨gl, 0, none⟩) 2 cl).toArray) (by simp [results, Tryd.results23, go_sem, q0, q1, q2, q3, q4, q5, q6, q7, q8]) rfl ⟨⟨_, rfl, ?_⟩, hbQ⟩
  rw [HNRM.out]
  exact hP
set_option maxHeartbeats 8000000 in
theorem normC_6s (op : Int) (v : Val) (rel col n : Int) (s : ByteArray) (y0 y1 : Ex) (hop : op = 6) (hlt : Op.bytesLess y1.norm.print y0.norm.print = true) (IH : ∀ y ∈ [y0, y1], NormC y) : NormC (.mk op v rel col n s [y0, y1]) := by
  intro w cs hx hG hr
  have HR := Lib.hid (right_op hr).2
  have HI := Lib.hid IH
  have HG := Lib.hid hG
  rw [ExM.iff] at hx
  obtain ⟨hv, q, c, rfl, -, hl⟩ := hx
  have HV := Lib.hid hv
  have HL := Lib.hid hl
  clear hv hl hr IH hG
  have HNRM := Lib.hid (show (Ex.mk op v rel col n s [y0, y1]).norm = .mk op v rel col n s [y1.norm, y0.norm] by
    rw [Ex.norm, fixE, hop, normL, normL, normL, if_neg (by decide), if_neg (by decide)]
    show (if (true && Op.bytesLess y1.norm.print y0.norm.print) = true then _ else _) = _
    rw [hlt]; rfl)
  have HLT := Lib.hid (show Op.bytesLess (bsB y1.norm.print).toList (bsB y0.norm.print).toList = true by rw [ByteArray.toList_eq, ByteArray.toList_eq]; exact hlt)
  have b13 : (op == 13) = false := by rw [hop]; rfl
  have b14 : (op == 14) = false := by rw [hop]; rfl
  have b4 : (op == 4) = false := by rw [hop]; rfl
  have b6 : (op == 6) = true := by rw [hop]; rfl
  clear hop hlt
  obtain ⟨W1, hW1⟩ : ∃ W, W = w.alloc (.cells (exCells op v rel col n s q 2 c).toArray 26) := ⟨_, rfl⟩
  have E0 : XB W1 w.heap.size ⟨op, v, rel, col, n, s, q, 2, c⟩ := by rw [hW1]; exact XB.new w ⟨op, v, rel, col, n, s, q, 2, c⟩ _
  have z1 : W1.heap.size = w.heap.size + 1 := by rw [hW1]; simp
  obtain ⟨W, hW⟩ : ∃ W, W = W1.alloc (.cells rawZ.cells.toArray 26) := ⟨_, rfl⟩
  have b1 : Below W1.heap.size W1 W := by rw [hW]; (repeat (first | exact ext_refl _ | assumption | (refine ext_alloc ?_ _) | (refine ext_drewN ?_ _) | refine ext_drew ?_ | (refine ext_set (by first | (simp; done) | (simp; omega)) _ ?_) | (refine ext_trans ?_ (by assumption))))
  have E1 := E0.on b1
  have E2 : XB W (w.heap.size + 1) rawZ := by rw [hW, ← z1]; exact XB.new W1 rawZ _
  have b : Below w.heap.size w W := by rw [hW, hW1]; (repeat (first | exact ext_refl _ | assumption | (refine ext_alloc ?_ _) | (refine ext_drewN ?_ _) | refine ext_drew ?_ | (refine ext_set (by first | (simp; done) | (simp; omega)) _ ?_) | (refine ext_trans ?_ (by assumption))))
  have z2 : W.heap.size = w.heap.size + 2 := by rw [hW]; simp [z1]
  have HWW := Lib.hid (show W = (w.alloc (.cells (exCells op v rel col n s q 2 c).toArray 26)).alloc (.cells rawZ.cells.toArray 26) by rw [hW, hW1])
  clear hW hW1 E0 z1 b1
  go_enter Tryd.func23, Tryd.ntmps23
  go_upto_region 1 with fail
  change Code.wp _ _ _ _ ((w.alloc (.cells (exCells op v rel col n s q 2 c).toArray 26)).alloc (.cells rawZ.cells.toArray 26))
  rw [← HWW.out]
  clear HWW
  obtain ⟨g, hg⟩ : ∃ g, g = w.heap.size := ⟨_, rfl⟩
  have HGW := Lib.hid hg
  rw [← hg] at E1 E2 z2 ⊢
  have HB := Lib.hid b
  have HE1 := Lib.hid E1
  have HE2 := Lib.hid E2
  have HZ2 := Lib.hid z2
  clear hg b z2 E2
  have lt := E1.lt
  have c8 := E1.c 8 _ rfl
  clear E1
  simp only at c8
  have HC : Calls Tryd.prog 38 #[.slice q 2 c, .func (.func 23) #[] #[]] W fun e w' => (∃ ql cl, e = .returned (.slice ql 2 cl) ∧ OwnX w' W.heap.size (fun k => W.heap.size ≤ k) (.slice ql 2 cl) [y0.norm, y1.norm]) ∧ Below W.heap.size W w' := by
    have h := changed_any 23 [] Ex.norm [y0, y1] q c W (ExL.ext HB.out _ _ _ HL.out) (show 2 * 104 ≤ 140737488355328 by decide) (fun y hy W' cs hb hM => HI.out y hy W' cs hM (HG.out.on (HB.out.trans (hb.mono HB.out.size))) (HR.out y hy)) Tryd.enterNormal
    rw [show ([y0, y1] : List Ex).length = 2 from rfl] at h
    refine h.mono ?_
    rintro e W' ⟨⟨vl, rfl, hO⟩, hb⟩
    obtain ⟨ql, cl, rfl, -, -, -⟩ := hO.toL
    rw [List.length_map, show ([y0, y1] : List Ex).length = 2 from rfl] at hO ⊢
    exact ⟨⟨ql, cl, rfl, hO⟩, hb⟩
  have HC := Lib.hid HC
  go_upto_region 2 with (go_at_call 38; (refine HC.out.mono ?_; rintro e X ⟨⟨ql, cl, rfl, hO⟩, hbX⟩; have HO := Lib.hid hO; have HBX := Lib.hid hbX; have HE1X := HE1.out.on hbX; have hgX := HE1X.lt; have fgX := HE1X.fz; have e8 := HE1X.c 8 _ rfl; simp only at e8; clear hO hbX HE1X lt c8))
  have hQ := NQ.start rfl HB.out HE1.out HE2.out HGW.out HZ2.out HBX.out HO.out
  simp only at hQ
  obtain ⟨N, hN⟩ : ∃ N, N = X.setCell ⟨g, 8, none⟩ (.slice ql 2 cl) := ⟨_, rfl⟩
  rw [← hN] at hQ ⊢
  have HGN := Lib.hid (HG.out.on hQ.b)
  have HQ := Lib.hid hQ
  clear hN hgX fgX e8 HO HBX HC HE1 HE2 HB HZ2 HI
  obtain ⟨lt, cc, fz⟩ := hQ.x1
  obtain ⟨gl, cl', r0, r1, e2, hbg, hgl, hE, hp0, hp1⟩ := OwnX.two hQ.o
  simp only [Value.slice.injEq, true_and] at e2
  obtain ⟨rfl, rfl⟩ := e2
  have e0 := fun k u hu => OwnF.cellAt RawE.cells_len hE (j := 0) (x := r0) rfl (k := k) (u := u) hu
  have e1 := fun k u hu => OwnF.cellAt RawE.cells_len hE (j := 1) (x := r1) rfl (k := k) (u := u) hu
  obtain ⟨op0, ⟨vk0, vn0, vs0⟩, rel0, col0, nn0, s0, q0, len0, cc0⟩ := r0
  obtain ⟨op1, ⟨vk1, vn1, vs1⟩, rel1, col1, nn1, s1, q1, len1, cc1⟩ := r1
  have f0 := (e0 0 _ rfl).1
  have f1 := (e0 1 _ rfl).1
  have f2 := (e0 2 _ rfl).1
  have f3 := (e0 3 _ rfl).1
  have f4 := (e0 4 _ rfl).1
  have f5 := (e0 5 _ rfl).1
  have f6 := (e0 6 _ rfl).1
  have f7 := (e0 7 _ rfl).1
  have f8 := (e0 8 _ rfl).1
  have h0 := (e1 0 _ rfl).1
  have h1 := (e1 1 _ rfl).1
  have h2 := (e1 2 _ rfl).1
  have h3 := (e1 3 _ rfl).1
  have h4 := (e1 4 _ rfl).1
  have h5 := (e1 5 _ rfl).1
  have h6 := (e1 6 _ rfl).1
  have h7 := (e1 7 _ rfl).1
  have h8 := (e1 8 _ rfl).1
  simp only [Nat.zero_mul, Nat.one_mul, Nat.zero_add, Nat.add_zero, Nat.reduceAdd] at f0 f1 f2 f3 f4 f5 f6 f7 f8 h0 h1 h2 h3 h4 h5 h6 h7 h8
  clear e0 e1
  have HM0 := Lib.hid (ExMP.toM _ _ hp0)
  have HM1 := Lib.hid (ExMP.toM _ _ hp1)
  have HT0 := Lib.hid (fun (x : After N) => calls_after (text_any y0.norm _ x.W (ExM.ext x.below _ _ HM0.out) (HGN.out.on x.below) (by rw [norm_right]; exact HR.out y0 (by simp))))
  have HT1 := Lib.hid (fun (x : After N) => calls_after (text_any y1.norm _ x.W (ExM.ext x.below _ _ HM1.out) (HGN.out.on x.below) (by rw [norm_right]; exact HR.out y1 (by simp))))
  obtain ⟨P0, hP0⟩ : ∃ P, P = bsB y0.norm.print := ⟨_, rfl⟩
  obtain ⟨P1, hP1⟩ : ∃ P, P = bsB y1.norm.print := ⟨_, rfl⟩
  rw [← hP0] at HT0 HLT
  rw [← hP1] at HT1 HLT
  clear hP0 hP1
  have c0 := cc 0 _ rfl
  have c1 := cc 1 _ rfl
  have c2 := cc 2 _ rfl
  have c3 := cc 3 _ rfl
  have c4 := cc 4 _ rfl
  have c5 := cc 5 _ rfl
  have c6 := cc 6 _ rfl
  have c7 := cc 7 _ rfl
  have c8 := cc 8 _ rfl
  simp only at c0 c1 c2 c3 c4 c5 c6 c7 c8
  clear cc
  clear hE hp0 hp1 hQ c1 c2 c3 c4 c5 c6 c7
  go_upto_region 15 with fail
  have rc := fun (x : After N) => (x.cell g 8 lt).trans c8
  have rf0 := fun (x : After N) => (x.cell gl 0 hgl).trans f0
  have rf1 := fun (x : After N) => (x.cell gl 1 hgl).trans f1
  have rf2 := fun (x : After N) => (x.cell gl 2 hgl).trans f2
  have rf3 := fun (x : After N) => (x.cell gl 3 hgl).trans f3
  have rf4 := fun (x : After N) => (x.cell gl 4 hgl).trans f4
  have rf5 := fun (x : After N) => (x.cell gl 5 hgl).trans f5
  have rf6 := fun (x : After N) => (x.cell gl 6 hgl).trans f6
  have rf7 := fun (x : After N) => (x.cell gl 7 hgl).trans f7
  have rf8 := fun (x : After N) => (x.cell gl 8 hgl).trans f8
  have rh0 := fun (x : After N) => (x.cell gl 9 hgl).trans h0
  have rh1 := fun (x : After N) => (x.cell gl 10 hgl).trans h1
  have rh2 := fun (x : After N) => (x.cell gl 11 hgl).trans h2
  have rh3 := fun (x : After N) => (x.cell gl 12 hgl).trans h3
  have rh4 := fun (x : After N) => (x.cell gl 13 hgl).trans h4
  have rh5 := fun (x : After N) => (x.cell gl 14 hgl).trans h5
  have rh6 := fun (x : After N) => (x.cell gl 15 hgl).trans h6
  have rh7 := fun (x : After N) => (x.cell gl 16 hgl).trans h7
  have rh8 := fun (x : After N) => (x.cell gl 17 hgl).trans h8
  clear c0 c8 fz f0 f1 f2 f3 f4 f5 f6 f7 f8 h0 h1 h2 h3 h4 h5 h6 h7 h8
  have is := After.some N
  refine wp_region_after (by kernel_rfl) (by kernel_rfl) ?_
  repeat (quiet_step ((go_at_call 40; first | with_reducible exact HT0.out _ | with_reducible exact HT1.out _)))
  refine wpQuiet_nil ?_
  intro Wq hw
  obtain ⟨⟨Wq, hbq⟩, rfl⟩ := hw
  have HQ1 := Lib.hid (HQ.out.on hbq)
  clear lt rc rf0 rf1 rf2 rf3 rf4 rf5 rf6 rf7 rf8 rh0 rh1 rh2 rh3 rh4 rh5 rh6 rh7 rh8 HT0 HT1 hbq hgl hbg is
  rw [HLT.out]
  obtain ⟨lt, cc, fz⟩ := HQ1.out.x1
  have c0 := cc 0 _ rfl
  have c1 := cc 1 _ rfl
  have c2 := cc 2 _ rfl
  have c3 := cc 3 _ rfl
  have c4 := cc 4 _ rfl
  have c5 := cc 5 _ rfl
  have c6 := cc 6 _ rfl
  have c7 := cc 7 _ rfl
  have c8 := cc 8 _ rfl
  simp only at c0 c1 c2 c3 c4 c5 c6 c7 c8
  clear cc
  obtain ⟨gl2, cl2, s0, s1, e3, hbg2, -, hE2, hs0, hs1⟩ := OwnX.two HQ1.out.o
  simp only [Value.slice.injEq, Option.some.injEq, Addr.mk.injEq, and_true, true_and] at e3
  obtain ⟨rfl, rfl⟩ := e3
  have HX := Lib.hid (exchange_any (g + 2) gl cl s0 s1 Wq hE2)
  have HH := Lib.hid (And.intro hbg2 (And.intro hs0 hs1))
  clear hE2 hs0 hs1 hbg2
  go_upto_region 17 with (go_at_call 39; (refine HX.out.mono ?_; rintro e N2 ⟨rfl, hEE, hoo⟩; have HQ2 := Lib.hid (HQ1.out.swap HH.out.1 HH.out.2.1 HH.out.2.2 hEE hoo); clear hEE hoo))
  clear c0 c1 c2 c3 c4 c5 c6 c7 c8 fz lt
  obtain ⟨lt, cc, fz⟩ := HQ2.out.x1
  have c0 := cc 0 _ rfl
  have c1 := cc 1 _ rfl
  have c2 := cc 2 _ rfl
  have c3 := cc 3 _ rfl
  have c4 := cc 4 _ rfl
  have c5 := cc 5 _ rfl
  have c6 := cc 6 _ rfl
  have c7 := cc 7 _ rfl
  have c8 := cc 8 _ rfl
  simp only at c0 c1 c2 c3 c4 c5 c6 c7 c8
  clear cc
  obtain ⟨ltR, cR, fR⟩ := HQ2.out.x2
  have d0 := cR 0 _ rfl
  have d1 := cR 1 _ rfl
  have d2 := cR 2 _ rfl
  have d3 := cR 3 _ rfl
  have d4 := cR 4 _ rfl
  have d5 := cR 5 _ rfl
  have d6 := cR 6 _ rfl
  have d7 := cR 7 _ rfl
  have d8 := cR 8 _ rfl
  clear cR
  go_wp2_with fail
  change bodyPost _ _ _ _ _ (setE N2 (g + 1) 0 ⟨op, v, rel, col, n, s, (some ⟨gl, 0, none⟩), 2, cl⟩)
  obtain ⟨hbQ, ⟨-, cQ, -⟩, hP⟩ := HQ2.out.done HV.out rfl rfl
  obtain ⟨Q, hQQ⟩ : ∃ Q, Q = setE N2 (g + 1) 0 ⟨op, v, rel, col, n, s, (some ⟨gl, 0, none⟩), 2, cl⟩ := ⟨_, rfl⟩
  rw [← hQQ] at hbQ cQ hP
  rw [← hQQ]
  have q0 := cQ 0 _ rfl
  have q1 := cQ 1 _ rfl
  have q2 := cQ 2 _ rfl
  have q3 := cQ 3 _ rfl
  have q4 := cQ 4 _ rfl
  have q5 := cQ 5 _ rfl
  have q6 := cQ 6 _ rfl
  have q7 := cQ 7 _ rfl
  have q8 := cQ 8 _ rfl
  clear hQQ cQ
  simp only at q0 q1 q2 q3 q4 q5 q6 q7 q8
  refine bodyPost_ret (v := .agg (exCells op v rel col n s (some ⟨gl, 0, none⟩) 2 cl).toArray) (by simp [results, Tryd.results23, go_sem, q0, q1, q2, q3, q4, q5, q6, q7, q8]) rfl ⟨⟨_, rfl, ?_⟩, hbQ⟩
  rw [HNRM.out]
  exact hP
set_option maxHeartbeats 8000000 in
theorem normC_9 (op : Int) (v : Val) (rel col n : Int) (s : ByteArray) (y0 y1 : Ex) (hop : op = 9) (hlt : Op.bytesLess y1.norm.print y0.norm.print = false) (IH : ∀ y ∈ [y0, y1], NormC y) : NormC (.mk op v rel col n s [y0, y1]) := by
  intro w cs hx hG hr
  have HR := Lib.hid (right_op hr).2
  have HI := Lib.hid IH
  have HG := Lib.hid hG
  rw [ExM.iff] at hx
  obtain ⟨hv, q, c, rfl, -, hl⟩ := hx
  have HV := Lib.hid hv
  have HL := Lib.hid hl
  clear hv hl hr IH hG
  have HNRM := Lib.hid (show (Ex.mk op v rel col n s [y0, y1]).norm = .mk op v rel col n s [y0.norm, y1.norm] by
    rw [Ex.norm, fixE, hop, normL, normL, normL, if_neg (by decide), if_neg (by decide)]
    show (if (true && Op.bytesLess y1.norm.print y0.norm.print) = true then _ else _) = _
    rw [hlt]; rfl)
  have HLT := Lib.hid (show Op.bytesLess (bsB y1.norm.print).toList (bsB y0.norm.print).toList = false by rw [ByteArray.toList_eq, ByteArray.toList_eq]; exact hlt)
  have b13 : (op == 13) = false := by rw [hop]; rfl
  have b14 : (op == 14) = false := by rw [hop]; rfl
  have b4 : (op == 4) = false := by rw [hop]; rfl
  have b6 : (op == 6) = false := by rw [hop]; rfl
  have b9 : (op == 9) = true := by rw [hop]; rfl
  clear hop hlt
  obtain ⟨W1, hW1⟩ : ∃ W, W = w.alloc (.cells (exCells op v rel col n s q 2 c).toArray 26) := ⟨_, rfl⟩
  have E0 : XB W1 w.heap.size ⟨op, v, rel, col, n, s, q, 2, c⟩ := by rw [hW1]; exact XB.new w ⟨op, v, rel, col, n, s, q, 2, c⟩ _
  have z1 : W1.heap.size = w.heap.size + 1 := by rw [hW1]; simp
  obtain ⟨W, hW⟩ : ∃ W, W = W1.alloc (.cells rawZ.cells.toArray 26) := ⟨_, rfl⟩
  have b1 : Below W1.heap.size W1 W := by rw [hW]; (repeat (first | exact ext_refl _ | assumption | (refine ext_alloc ?_ _) | (refine ext_drewN ?_ _) | refine ext_drew ?_ | (refine ext_set (by first | (simp; done) | (simp; omega)) _ ?_) | (refine ext_trans ?_ (by assumption))))
  have E1 := E0.on b1
  have E2 : XB W (w.heap.size + 1) rawZ := by rw [hW, ← z1]; exact XB.new W1 rawZ _
  have b : Below w.heap.size w W := by rw [hW, hW1]; (repeat (first | exact ext_refl _ | assumption | (refine ext_alloc ?_ _) | (refine ext_drewN ?_ _) | refine ext_drew ?_ | (refine ext_set (by first | (simp; done) | (simp; omega)) _ ?_) | (refine ext_trans ?_ (by assumption))))
  have z2 : W.heap.size = w.heap.size + 2 := by rw [hW]; simp [z1]
  have HWW := Lib.hid (show W = (w.alloc (.cells (exCells op v rel col n s q 2 c).toArray 26)).alloc (.cells rawZ.cells.toArray 26) by rw [hW, hW1])
  clear hW hW1 E0 z1 b1
  go_enter Tryd.func23, Tryd.ntmps23
  go_upto_region 1 with fail
  change Code.wp _ _ _ _ ((w.alloc (.cells (exCells op v rel col n s q 2 c).toArray 26)).alloc (.cells rawZ.cells.toArray 26))
  rw [← HWW.out]
  clear HWW
  obtain ⟨g, hg⟩ : ∃ g, g = w.heap.size := ⟨_, rfl⟩
  have HGW := Lib.hid hg
  rw [← hg] at E1 E2 z2 ⊢
  have HB := Lib.hid b
  have HE1 := Lib.hid E1
  have HE2 := Lib.hid E2
  have HZ2 := Lib.hid z2
  clear hg b z2 E2
  have lt := E1.lt
  have c8 := E1.c 8 _ rfl
  clear E1
  simp only at c8
  have HC : Calls Tryd.prog 38 #[.slice q 2 c, .func (.func 23) #[] #[]] W fun e w' => (∃ ql cl, e = .returned (.slice ql 2 cl) ∧ OwnX w' W.heap.size (fun k => W.heap.size ≤ k) (.slice ql 2 cl) [y0.norm, y1.norm]) ∧ Below W.heap.size W w' := by
    have h := changed_any 23 [] Ex.norm [y0, y1] q c W (ExL.ext HB.out _ _ _ HL.out) (show 2 * 104 ≤ 140737488355328 by decide) (fun y hy W' cs hb hM => HI.out y hy W' cs hM (HG.out.on (HB.out.trans (hb.mono HB.out.size))) (HR.out y hy)) Tryd.enterNormal
    rw [show ([y0, y1] : List Ex).length = 2 from rfl] at h
    refine h.mono ?_
    rintro e W' ⟨⟨vl, rfl, hO⟩, hb⟩
    obtain ⟨ql, cl, rfl, -, -, -⟩ := hO.toL
    rw [List.length_map, show ([y0, y1] : List Ex).length = 2 from rfl] at hO ⊢
    exact ⟨⟨ql, cl, rfl, hO⟩, hb⟩
  have HC := Lib.hid HC
  go_upto_region 2 with (go_at_call 38; (refine HC.out.mono ?_; rintro e X ⟨⟨ql, cl, rfl, hO⟩, hbX⟩; have HO := Lib.hid hO; have HBX := Lib.hid hbX; have HE1X := HE1.out.on hbX; have hgX := HE1X.lt; have fgX := HE1X.fz; have e8 := HE1X.c 8 _ rfl; simp only at e8; clear hO hbX HE1X lt c8))
  have hQ := NQ.start rfl HB.out HE1.out HE2.out HGW.out HZ2.out HBX.out HO.out
  simp only at hQ
  obtain ⟨N, hN⟩ : ∃ N, N = X.setCell ⟨g, 8, none⟩ (.slice ql 2 cl) := ⟨_, rfl⟩
  rw [← hN] at hQ ⊢
  have HGN := Lib.hid (HG.out.on hQ.b)
  have HQ := Lib.hid hQ
  clear hN hgX fgX e8 HO HBX HC HE1 HE2 HB HZ2 HI
  obtain ⟨lt, cc, fz⟩ := hQ.x1
  obtain ⟨gl, cl', r0, r1, e2, hbg, hgl, hE, hp0, hp1⟩ := OwnX.two hQ.o
  simp only [Value.slice.injEq, true_and] at e2
  obtain ⟨rfl, rfl⟩ := e2
  have e0 := fun k u hu => OwnF.cellAt RawE.cells_len hE (j := 0) (x := r0) rfl (k := k) (u := u) hu
  have e1 := fun k u hu => OwnF.cellAt RawE.cells_len hE (j := 1) (x := r1) rfl (k := k) (u := u) hu
  obtain ⟨op0, ⟨vk0, vn0, vs0⟩, rel0, col0, nn0, s0, q0, len0, cc0⟩ := r0
  obtain ⟨op1, ⟨vk1, vn1, vs1⟩, rel1, col1, nn1, s1, q1, len1, cc1⟩ := r1
  have f0 := (e0 0 _ rfl).1
  have f1 := (e0 1 _ rfl).1
  have f2 := (e0 2 _ rfl).1
  have f3 := (e0 3 _ rfl).1
  have f4 := (e0 4 _ rfl).1
  have f5 := (e0 5 _ rfl).1
  have f6 := (e0 6 _ rfl).1
  have f7 := (e0 7 _ rfl).1
  have f8 := (e0 8 _ rfl).1
  have h0 := (e1 0 _ rfl).1
  have h1 := (e1 1 _ rfl).1
  have h2 := (e1 2 _ rfl).1
  have h3 := (e1 3 _ rfl).1
  have h4 := (e1 4 _ rfl).1
  have h5 := (e1 5 _ rfl).1
  have h6 := (e1 6 _ rfl).1
  have h7 := (e1 7 _ rfl).1
  have h8 := (e1 8 _ rfl).1
  simp only [Nat.zero_mul, Nat.one_mul, Nat.zero_add, Nat.add_zero, Nat.reduceAdd] at f0 f1 f2 f3 f4 f5 f6 f7 f8 h0 h1 h2 h3 h4 h5 h6 h7 h8
  clear e0 e1
  have HM0 := Lib.hid (ExMP.toM _ _ hp0)
  have HM1 := Lib.hid (ExMP.toM _ _ hp1)
  have HT0 := Lib.hid (fun (x : After N) => calls_after (text_any y0.norm _ x.W (ExM.ext x.below _ _ HM0.out) (HGN.out.on x.below) (by rw [norm_right]; exact HR.out y0 (by simp))))
  have HT1 := Lib.hid (fun (x : After N) => calls_after (text_any y1.norm _ x.W (ExM.ext x.below _ _ HM1.out) (HGN.out.on x.below) (by rw [norm_right]; exact HR.out y1 (by simp))))
  obtain ⟨P0, hP0⟩ : ∃ P, P = bsB y0.norm.print := ⟨_, rfl⟩
  obtain ⟨P1, hP1⟩ : ∃ P, P = bsB y1.norm.print := ⟨_, rfl⟩
  rw [← hP0] at HT0 HLT
  rw [← hP1] at HT1 HLT
  clear hP0 hP1
  have c0 := cc 0 _ rfl
  have c1 := cc 1 _ rfl
  have c2 := cc 2 _ rfl
  have c3 := cc 3 _ rfl
  have c4 := cc 4 _ rfl
  have c5 := cc 5 _ rfl
  have c6 := cc 6 _ rfl
  have c7 := cc 7 _ rfl
  have c8 := cc 8 _ rfl
  simp only at c0 c1 c2 c3 c4 c5 c6 c7 c8
  clear cc
  clear hE hp0 hp1 hQ c1 c2 c3 c4 c5 c6 c7
  go_upto_region 15 with fail
  have rc := fun (x : After N) => (x.cell g 8 lt).trans c8
  have rf0 := fun (x : After N) => (x.cell gl 0 hgl).trans f0
  have rf1 := fun (x : After N) => (x.cell gl 1 hgl).trans f1
  have rf2 := fun (x : After N) => (x.cell gl 2 hgl).trans f2
  have rf3 := fun (x : After N) => (x.cell gl 3 hgl).trans f3
  have rf4 := fun (x : After N) => (x.cell gl 4 hgl).trans f4
  have rf5 := fun (x : After N) => (x.cell gl 5 hgl).trans f5
  have rf6 := fun (x : After N) => (x.cell gl 6 hgl).trans f6
  have rf7 := fun (x : After N) => (x.cell gl 7 hgl).trans f7
  have rf8 := fun (x : After N) => (x.cell gl 8 hgl).trans f8
  have rh0 := fun (x : After N) => (x.cell gl 9 hgl).trans h0
  have rh1 := fun (x : After N) => (x.cell gl 10 hgl).trans h1
  have rh2 := fun (x : After N) => (x.cell gl 11 hgl).trans h2
  have rh3 := fun (x : After N) => (x.cell gl 12 hgl).trans h3
  have rh4 := fun (x : After N) => (x.cell gl 13 hgl).trans h4
  have rh5 := fun (x : After N) => (x.cell gl 14 hgl).trans h5
  have rh6 := fun (x : After N) => (x.cell gl 15 hgl).trans h6
  have rh7 := fun (x : After N) => (x.cell gl 16 hgl).trans h7
  have rh8 := fun (x : After N) => (x.cell gl 17 hgl).trans h8
  clear c0 c8 fz f0 f1 f2 f3 f4 f5 f6 f7 f8 h0 h1 h2 h3 h4 h5 h6 h7 h8
  have is := After.some N
  refine wp_region_after (by kernel_rfl) (by kernel_rfl) ?_
  repeat (quiet_step ((go_at_call 40; first | with_reducible exact HT0.out _ | with_reducible exact HT1.out _)))
  refine wpQuiet_nil ?_
  intro Wq hw
  obtain ⟨⟨Wq, hbq⟩, rfl⟩ := hw
  have HQ1 := Lib.hid (HQ.out.on hbq)
  clear lt rc rf0 rf1 rf2 rf3 rf4 rf5 rf6 rf7 rf8 rh0 rh1 rh2 rh3 rh4 rh5 rh6 rh7 rh8 HT0 HT1 hbq hgl hbg is
  rw [HLT.out]
  obtain ⟨lt, cc, fz⟩ := HQ1.out.x1
  have c0 := cc 0 _ rfl
  have c1 := cc 1 _ rfl
  have c2 := cc 2 _ rfl
  have c3 := cc 3 _ rfl
  have c4 := cc 4 _ rfl
  have c5 := cc 5 _ rfl
  have c6 := cc 6 _ rfl
  have c7 := cc 7 _ rfl
  have c8 := cc 8 _ rfl
  simp only at c0 c1 c2 c3 c4 c5 c6 c7 c8
  clear cc
  obtain ⟨ltR, cR, fR⟩ := HQ1.out.x2
  have d0 := cR 0 _ rfl
  have d1 := cR 1 _ rfl
  have d2 := cR 2 _ rfl
  have d3 := cR 3 _ rfl
  have d4 := cR 4 _ rfl
  have d5 := cR 5 _ rfl
  have d6 := cR 6 _ rfl
  have d7 := cR 7 _ rfl
  have d8 := cR 8 _ rfl
  clear cR
  go_wp2_with fail
  change bodyPost _ _ _ _ _ (setE Wq (g + 1) 0 ⟨op, v, rel, col, n, s, (some ⟨gl, 0, none⟩), 2, cl⟩)
  obtain ⟨hbQ, ⟨-, cQ, -⟩, hP⟩ := HQ1.out.done HV.out rfl rfl
  obtain ⟨Q, hQQ⟩ : ∃ Q, Q = setE Wq (g + 1) 0 ⟨op, v, rel, col, n, s, (some ⟨gl, 0, none⟩), 2, cl⟩ := ⟨_, rfl⟩
  rw [← hQQ] at hbQ cQ hP
  rw [← hQQ]
  have q0 := cQ 0 _ rfl
  have q1 := cQ 1 _ rfl
  have q2 := cQ 2 _ rfl
  have q3 := cQ 3 _ rfl
  have q4 := cQ 4 _ rfl
  have q5 := cQ 5 _ rfl
  have q6 := cQ 6 _ rfl
  have q7 := cQ 7 _ rfl
  have q8 := cQ 8 _ rfl
  clear hQQ cQ
  simp only at q0 q1 q2 q3 q4 q5 q6 q7 q8
  refine bodyPost_ret (v := .agg (exCells op v rel col n s (some ⟨gl, 0, none⟩) 2 cl).toArray) (by simp [results, Tryd.results23, go_sem, q0, q1, q2, q3, q4, q5, q6, q7, q8]) rfl ⟨⟨_, rfl, ?_⟩, hbQ⟩
  rw [HNRM.out]
  exact hP
set_option maxHeartbeats 8000000 in
theorem normC_9s (op : Int) (v : Val) (rel col n : Int) (s : ByteArray) (y0 y1 : Ex) (hop : op = 9) (hlt : Op.bytesLess y1.norm.print y0.norm.print = true) (IH : ∀ y ∈ [y0, y1], NormC y) : NormC (.mk op v rel col n s [y0, y1]) := by
  intro w cs hx hG hr
  have HR := Lib.hid (right_op hr).2
  have HI := Lib.hid IH
  have HG := Lib.hid hG
  rw [ExM.iff] at hx
  obtain ⟨hv, q, c, rfl, -, hl⟩ := hx
  have HV := Lib.hid hv
  have HL := Lib.hid hl
  clear hv hl hr IH hG
  have HNRM := Lib.hid (show (Ex.mk op v rel col n s [y0, y1]).norm = .mk op v rel col n s [y1.norm, y0.norm] by
    rw [Ex.norm, fixE, hop, normL, normL, normL, if_neg (by decide), if_neg (by decide)]
    show (if (true && Op.bytesLess y1.norm.print y0.norm.print) = true then _ else _) = _
    rw [hlt]; rfl)
  have HLT := Lib.hid (show Op.bytesLess (bsB y1.norm.print).toList (bsB y0.norm.print).toList = true by rw [ByteArray.toList_eq, ByteArray.toList_eq]; exact hlt)
  have b13 : (op == 13) = false := by rw [hop]; rfl
  have b14 : (op == 14) = false := by rw [hop]; rfl
  have b4 : (op == 4) = false := by rw [hop]; rfl
  have b6 : (op == 6) = false := by rw [hop]; rfl
  have b9 : (op == 9) = true := by rw [hop]; rfl
  clear hop hlt
  obtain ⟨W1, hW1⟩ : ∃ W, W = w.alloc (.cells (exCells op v rel col n s q 2 c).toArray 26) := ⟨_, rfl⟩
  have E0 : XB W1 w.heap.size ⟨op, v, rel, col, n, s, q, 2, c⟩ := by rw [hW1]; exact XB.new w ⟨op, v, rel, col, n, s, q, 2, c⟩ _
  have z1 : W1.heap.size = w.heap.size + 1 := by rw [hW1]; simp
  obtain ⟨W, hW⟩ : ∃ W, W = W1.alloc (.cells rawZ.cells.toArray 26) := ⟨_, rfl⟩
  have b1 : Below W1.heap.size W1 W := by rw [hW]; (repeat (first | exact ext_refl _ | assumption | (refine ext_alloc ?_ _) | (refine ext_drewN ?_ _) | refine ext_drew ?_ | (refine ext_set (by first | (simp; done) | (simp; omega)) _ ?_) | (refine ext_trans ?_ (by assumption))))
  have E1 := E0.on b1
  have E2 : XB W (w.heap.size + 1) rawZ := by rw [hW, ← z1]; exact XB.new W1 rawZ _
  have b : Below w.heap.size w W := by rw [hW, hW1]; (repeat (first | exact ext_refl _ | assumption | (refine ext_alloc ?_ _) | (refine ext_drewN ?_ _) | refine ext_drew ?_ | (refine ext_set (by first | (simp; done) | (simp; omega)) _ ?_) | (refine ext_trans ?_ (by assumption))))
  have z2 : W.heap.size = w.heap.size + 2 := by rw [hW]; simp [z1]
  have HWW := Lib.hid (show W = (w.alloc (.cells (exCells op v rel col n s q 2 c).toArray 26)).alloc (.cells rawZ.cells.toArray 26) by rw [hW, hW1])
  clear hW hW1 E0 z1 b1
  go_enter Tryd.func23, Tryd.ntmps23
  go_upto_region 1 with fail
  change Code.wp _ _ _ _ ((w.alloc (.cells (exCells op v rel col n s q 2 c).toArray 26)).alloc (.cells rawZ.cells.toArray 26))
  rw [← HWW.out]
  clear HWW
  obtain ⟨g, hg⟩ : ∃ g, g = w.heap.size := ⟨_, rfl⟩
  have HGW := Lib.hid hg
  rw [← hg] at E1 E2 z2 ⊢
  have HB := Lib.hid b
  have HE1 := Lib.hid E1
  have HE2 := Lib.hid E2
  have HZ2 := Lib.hid z2
  clear hg b z2 E2
  have lt := E1.lt
  have c8 := E1.c 8 _ rfl
  clear E1
  simp only at c8
  have HC : Calls Tryd.prog 38 #[.slice q 2 c, .func (.func 23) #[] #[]] W fun e w' => (∃ ql cl, e = .returned (.slice ql 2 cl) ∧ OwnX w' W.heap.size (fun k => W.heap.size ≤ k) (.slice ql 2 cl) [y0.norm, y1.norm]) ∧ Below W.heap.size W w' := by
    have h := changed_any 23 [] Ex.norm [y0, y1] q c W (ExL.ext HB.out _ _ _ HL.out) (show 2 * 104 ≤ 140737488355328 by decide) (fun y hy W' cs hb hM => HI.out y hy W' cs hM (HG.out.on (HB.out.trans (hb.mono HB.out.size))) (HR.out y hy)) Tryd.enterNormal
    rw [show ([y0, y1] : List Ex).length = 2 from rfl] at h
    refine h.mono ?_
    rintro e W' ⟨⟨vl, rfl, hO⟩, hb⟩
    obtain ⟨ql, cl, rfl, -, -, -⟩ := hO.toL
    rw [List.length_map, show ([y0, y1] : List Ex).length = 2 from rfl] at hO ⊢
    exact ⟨⟨ql, cl, rfl, hO⟩, hb⟩
  have HC := Lib.hid HC
  go_upto_region 2 with (go_at_call 38; (refine HC.out.mono ?_; rintro e X ⟨⟨ql, cl, rfl, hO⟩, hbX⟩; have HO := Lib.hid hO; have HBX := Lib.hid hbX; have HE1X := HE1.out.on hbX; have hgX := HE1X.lt; have fgX := HE1X.fz; have e8 := HE1X.c 8 _ rfl; simp only at e8; clear hO hbX HE1X lt c8))
  have hQ := NQ.start rfl HB.out HE1.out HE2.out HGW.out HZ2.out HBX.out HO.out
  simp only at hQ
  obtain ⟨N, hN⟩ : ∃ N, N = X.setCell ⟨g, 8, none⟩ (.slice ql 2 cl) := ⟨_, rfl⟩
  rw [← hN] at hQ ⊢
  have HGN := Lib.hid (HG.out.on hQ.b)
  have HQ := Lib.hid hQ
  clear hN hgX fgX e8 HO HBX HC HE1 HE2 HB HZ2 HI
  obtain ⟨lt, cc, fz⟩ := hQ.x1
  obtain ⟨gl, cl', r0, r1, e2, hbg, hgl, hE, hp0, hp1⟩ := OwnX.two hQ.o
  simp only [Value.slice.injEq, true_and] at e2
  obtain ⟨rfl, rfl⟩ := e2
  have e0 := fun k u hu => OwnF.cellAt RawE.cells_len hE (j := 0) (x := r0) rfl (k := k) (u := u) hu
  have e1 := fun k u hu => OwnF.cellAt RawE.cells_len hE (j := 1) (x := r1) rfl (k := k) (u := u) hu
  obtain ⟨op0, ⟨vk0, vn0, vs0⟩, rel0, col0, nn0, s0, q0, len0, cc0⟩ := r0
  obtain ⟨op1, ⟨vk1, vn1, vs1⟩, rel1, col1, nn1, s1, q1, len1, cc1⟩ := r1
  have f0 := (e0 0 _ rfl).1
  have f1 := (e0 1 _ rfl).1
  have f2 := (e0 2 _ rfl).1
  have f3 := (e0 3 _ rfl).1
  have f4 := (e0 4 _ rfl).1
  have f5 := (e0 5 _ rfl).1
  have f6 := (e0 6 _ rfl).1
  have f7 := (e0 7 _ rfl).1
  have f8 := (e0 8 _ rfl).1
  have h0 := (e1 0 _ rfl).1
  have h1 := (e1 1 _ rfl).1
  have h2 := (e1 2 _ rfl).1
  have h3 := (e1 3 _ rfl).1
  have h4 := (e1 4 _ rfl).1
  have h5 := (e1 5 _ rfl).1
  have h6 := (e1 6 _ rfl).1
  have h7 := (e1 7 _ rfl).1
  have h8 := (e1 8 _ rfl).1
  simp only [Nat.zero_mul, Nat.one_mul, Nat.zero_add, Nat.add_zero, Nat.reduceAdd] at f0 f1 f2 f3 f4 f5 f6 f7 f8 h0 h1 h2 h3 h4 h5 h6 h7 h8
  clear e0 e1
  have HM0 := Lib.hid (ExMP.toM _ _ hp0)
  have HM1 := Lib.hid (ExMP.toM _ _ hp1)
  have HT0 := Lib.hid (fun (x : After N) => calls_after (text_any y0.norm _ x.W (ExM.ext x.below _ _ HM0.out) (HGN.out.on x.below) (by rw [norm_right]; exact HR.out y0 (by simp))))
  have HT1 := Lib.hid (fun (x : After N) => calls_after (text_any y1.norm _ x.W (ExM.ext x.below _ _ HM1.out) (HGN.out.on x.below) (by rw [norm_right]; exact HR.out y1 (by simp))))
  obtain ⟨P0, hP0⟩ : ∃ P, P = bsB y0.norm.print := ⟨_, rfl⟩
  obtain ⟨P1, hP1⟩ : ∃ P, P = bsB y1.norm.print := ⟨_, rfl⟩
  rw [← hP0] at HT0 HLT
  rw [← hP1] at HT1 HLT
  clear hP0 hP1
  have c0 := cc 0 _ rfl
  have c1 := cc 1 _ rfl
  have c2 := cc 2 _ rfl
  have c3 := cc 3 _ rfl
  have c4 := cc 4 _ rfl
  have c5 := cc 5 _ rfl
  have c6 := cc 6 _ rfl
  have c7 := cc 7 _ rfl
  have c8 := cc 8 _ rfl
  simp only at c0 c1 c2 c3 c4 c5 c6 c7 c8
  clear cc
  clear hE hp0 hp1 hQ c1 c2 c3 c4 c5 c6 c7
  go_upto_region 15 with fail
  have rc := fun (x : After N) => (x.cell g 8 lt).trans c8
  have rf0 := fun (x : After N) => (x.cell gl 0 hgl).trans f0
  have rf1 := fun (x : After N) => (x.cell gl 1 hgl).trans f1
  have rf2 := fun (x : After N) => (x.cell gl 2 hgl).trans f2
  have rf3 := fun (x : After N) => (x.cell gl 3 hgl).trans f3
  have rf4 := fun (x : After N) => (x.cell gl 4 hgl).trans f4
  have rf5 := fun (x : After N) => (x.cell gl 5 hgl).trans f5
  have rf6 := fun (x : After N) => (x.cell gl 6 hgl).trans f6
  have rf7 := fun (x : After N) => (x.cell gl 7 hgl).trans f7
  have rf8 := fun (x : After N) => (x.cell gl 8 hgl).trans f8
  have rh0 := fun (x : After N) => (x.cell gl 9 hgl).trans h0
  have rh1 := fun (x : After N) => (x.cell gl 10 hgl).trans h1
  have rh2 := fun (x : After N) => (x.cell gl 11 hgl).trans h2
  have rh3 := fun (x : After N) => (x.cell gl 12 hgl).trans h3
  have rh4 := fun (x : After N) => (x.cell gl 13 hgl).trans h4
  have rh5 := fun (x : After N) => (x.cell gl 14 hgl).trans h5
  have rh6 := fun (x : After N) => (x.cell gl 15 hgl).trans h6
  have rh7 := fun (x : After N) => (x.cell gl 16 hgl).trans h7
  have rh8 := fun (x : After N) => (x.cell gl 17 hgl).trans h8
  clear c0 c8 fz f0 f1 f2 f3 f4 f5 f6 f7 f8 h0 h1 h2 h3 h4 h5 h6 h7 h8
  have is := After.some N
  refine wp_region_after (by kernel_rfl) (by kernel_rfl) ?_
  repeat (quiet_step ((go_at_call 40; first | with_reducible exact HT0.out _ | with_reducible exact HT1.out _)))
  refine wpQuiet_nil ?_
  intro Wq hw
  obtain ⟨⟨Wq, hbq⟩, rfl⟩ := hw
  have HQ1 := Lib.hid (HQ.out.on hbq)
  clear lt rc rf0 rf1 rf2 rf3 rf4 rf5 rf6 rf7 rf8 rh0 rh1 rh2 rh3 rh4 rh5 rh6 rh7 rh8 HT0 HT1 hbq hgl hbg is
  rw [HLT.out]
  obtain ⟨lt, cc, fz⟩ := HQ1.out.x1
  have c0 := cc 0 _ rfl
  have c1 := cc 1 _ rfl
  have c2 := cc 2 _ rfl
  have c3 := cc 3 _ rfl
  have c4 := cc 4 _ rfl
  have c5 := cc 5 _ rfl
  have c6 := cc 6 _ rfl
  have c7 := cc 7 _ rfl
  have c8 := cc 8 _ rfl
  simp only at c0 c1 c2 c3 c4 c5 c6 c7 c8
  clear cc
  obtain ⟨gl2, cl2, s0, s1, e3, hbg2, -, hE2, hs0, hs1⟩ := OwnX.two HQ1.out.o
  simp only [Value.slice.injEq, Option.some.injEq, Addr.mk.injEq, and_true, true_and] at e3
  obtain ⟨rfl, rfl⟩ := e3
  have HX := Lib.hid (exchange_any (g + 2) gl cl s0 s1 Wq hE2)
  have HH := Lib.hid (And.intro hbg2 (And.intro hs0 hs1))
  clear hE2 hs0 hs1 hbg2
  go_upto_region 17 with (go_at_call 39; (refine HX.out.mono ?_; rintro e N2 ⟨rfl, hEE, hoo⟩; have HQ2 := Lib.hid (HQ1.out.swap HH.out.1 HH.out.2.1 HH.out.2.2 hEE hoo); clear hEE hoo))
  clear c0 c1 c2 c3 c4 c5 c6 c7 c8 fz lt
  obtain ⟨lt, cc, fz⟩ := HQ2.out.x1
  have c0 := cc 0 _ rfl
  have c1 := cc 1 _ rfl
  have c2 := cc 2 _ rfl
  have c3 := cc 3 _ rfl
  have c4 := cc 4 _ rfl
  have c5 := cc 5 _ rfl
  have c6 := cc 6 _ rfl
  have c7 := cc 7 _ rfl
  have c8 := cc 8 _ rfl
  simp only at c0 c1 c2 c3 c4 c5 c6 c7 c8
  clear cc
  obtain ⟨ltR, cR, fR⟩ := HQ2.out.x2
  have d0 := cR 0 _ rfl
  have d1 := cR 1 _ rfl
  have d2 := cR 2 _ rfl
  have d3 := cR 3 _ rfl
  have d4 := cR 4 _ rfl
  have d5 := cR 5 _ rfl
  have d6 := cR 6 _ rfl
  have d7 := cR 7 _ rfl
  have d8 := cR 8 _ rfl
  clear cR
  go_wp2_with fail
  change bodyPost _ _ _ _ _ (setE N2 (g + 1) 0 ⟨op, v, rel, col, n, s, (some ⟨gl, 0, none⟩), 2, cl⟩)
  obtain ⟨hbQ, ⟨-, cQ, -⟩, hP⟩ := HQ2.out.done HV.out rfl rfl
  obtain ⟨Q, hQQ⟩ : ∃ Q, Q = setE N2 (g + 1) 0 ⟨op, v, rel, col, n, s, (some ⟨gl, 0, none⟩), 2, cl⟩ := ⟨_, rfl⟩
  rw [← hQQ] at hbQ cQ hP
  rw [← hQQ]
  have q0 := cQ 0 _ rfl
  have q1 := cQ 1 _ rfl
  have q2 := cQ 2 _ rfl
  have q3 := cQ 3 _ rfl
  have q4 := cQ 4 _ rfl
  have q5 := cQ 5 _ rfl
  have q6 := cQ 6 _ rfl
  have q7 := cQ 7 _ rfl
  have q8 := cQ 8 _ rfl
  clear hQQ cQ
  simp only at q0 q1 q2 q3 q4 q5 q6 q7 q8
  refine bodyPost_ret (v := .agg (exCells op v rel col n s (some ⟨gl, 0, none⟩) 2 cl).toArray) (by simp [results, Tryd.results23, go_sem, q0, q1, q2, q3, q4, q5, q6, q7, q8]) rfl ⟨⟨_, rfl, ?_⟩, hbQ⟩
  rw [HNRM.out]
  exact hP
set_option maxHeartbeats 8000000 in
theorem normC_10 (op : Int) (v : Val) (rel col n : Int) (s : ByteArray) (y0 y1 : Ex) (hop : op = 10) (hlt : Op.bytesLess y1.norm.print y0.norm.print = false) (IH : ∀ y ∈ [y0, y1], NormC y) : NormC (.mk op v rel col n s [y0, y1]) := by
  intro w cs hx hG hr
  have HR := Lib.hid (right_op hr).2
  have HI := Lib.hid IH
  have HG := Lib.hid hG
  rw [ExM.iff] at hx
  obtain ⟨hv, q, c, rfl, -, hl⟩ := hx
  have HV := Lib.hid hv
  have HL := Lib.hid hl
  clear hv hl hr IH hG
  have HNRM := Lib.hid (show (Ex.mk op v rel col n s [y0, y1]).norm = .mk op v rel col n s [y0.norm, y1.norm] by
    rw [Ex.norm, fixE, hop, normL, normL, normL, if_neg (by decide), if_neg (by decide)]
    show (if (true && Op.bytesLess y1.norm.print y0.norm.print) = true then _ else _) = _
    rw [hlt]; rfl)
  have HLT := Lib.hid (show Op.bytesLess (bsB y1.norm.print).toList (bsB y0.norm.print).toList = false by rw [ByteArray.toList_eq, ByteArray.toList_eq]; exact hlt)
  have b13 : (op == 13) = false := by rw [hop]; rfl
  have b14 : (op == 14) = false := by rw [hop]; rfl
  have b4 : (op == 4) = false := by rw [hop]; rfl
  have b6 : (op == 6) = false := by rw [hop]; rfl
  have b9 : (op == 9) = false := by rw [hop]; rfl
  have b10 : (op == 10) = true := by rw [hop]; rfl
  clear hop hlt
  obtain ⟨W1, hW1⟩ : ∃ W, W = w.alloc (.cells (exCells op v rel col n s q 2 c).toArray 26) := ⟨_, rfl⟩
  have E0 : XB W1 w.heap.size ⟨op, v, rel, col, n, s, q, 2, c⟩ := by rw [hW1]; exact XB.new w ⟨op, v, rel, col, n, s, q, 2, c⟩ _
  have z1 : W1.heap.size = w.heap.size + 1 := by rw [hW1]; simp
  obtain ⟨W, hW⟩ : ∃ W, W = W1.alloc (.cells rawZ.cells.toArray 26) := ⟨_, rfl⟩
  have b1 : Below W1.heap.size W1 W := by rw [hW]; (repeat (first | exact ext_refl _ | assumption | (refine ext_alloc ?_ _) | (refine ext_drewN ?_ _) | refine ext_drew ?_ | (refine ext_set (by first | (simp; done) | (simp; omega)) _ ?_) | (refine ext_trans ?_ (by assumption))))
  have E1 := E0.on b1
  have E2 : XB W (w.heap.size + 1) rawZ := by rw [hW, ← z1]; exact XB.new W1 rawZ _
  have b : Below w.heap.size w W := by rw [hW, hW1]; (repeat (first | exact ext_refl _ | assumption | (refine ext_alloc ?_ _) | (refine ext_drewN ?_ _) | refine ext_drew ?_ | (refine ext_set (by first | (simp; done) | (simp; omega)) _ ?_) | (refine ext_trans ?_ (by assumption))))
  have z2 : W.heap.size = w.heap.size + 2 := by rw [hW]; simp [z1]
  have HWW := Lib.hid (show W = (w.alloc (.cells (exCells op v rel col n s q 2 c).toArray 26)).alloc (.cells rawZ.cells.toArray 26) by rw [hW, hW1])
  clear hW hW1 E0 z1 b1
  go_enter Tryd.func23, Tryd.ntmps23
  go_upto_region 1 with fail
  change Code.wp _ _ _ _ ((w.alloc (.cells (exCells op v rel col n s q 2 c).toArray 26)).alloc (.cells rawZ.cells.toArray 26))
  rw [← HWW.out]
  clear HWW
  obtain ⟨g, hg⟩ : ∃ g, g = w.heap.size := ⟨_, rfl⟩
  have HGW := Lib.hid hg
  rw [← hg] at E1 E2 z2 ⊢
  have HB := Lib.hid b
  have HE1 := Lib.hid E1
  have HE2 := Lib.hid E2
  have HZ2 := Lib.hid z2
  clear hg b z2 E2
  have lt := E1.lt
  have c8 := E1.c 8 _ rfl
  clear E1
  simp only at c8
  have HC : Calls Tryd.prog 38 #[.slice q 2 c, .func (.func 23) #[] #[]] W fun e w' => (∃ ql cl, e = .returned (.slice ql 2 cl) ∧ OwnX w' W.heap.size (fun k => W.heap.size ≤ k) (.slice ql 2 cl) [y0.norm, y1.norm]) ∧ Below W.heap.size W w' := by
    have h := changed_any 23 [] Ex.norm [y0, y1] q c W (ExL.ext HB.out _ _ _ HL.out) (show 2 * 104 ≤ 140737488355328 by decide) (fun y hy W' cs hb hM => HI.out y hy W' cs hM (HG.out.on (HB.out.trans (hb.mono HB.out.size))) (HR.out y hy)) Tryd.enterNormal
    rw [show ([y0, y1] : List Ex).length = 2 from rfl] at h
    refine h.mono ?_
    rintro e W' ⟨⟨vl, rfl, hO⟩, hb⟩
    obtain ⟨ql, cl, rfl, -, -, -⟩ := hO.toL
    rw [List.length_map, show ([y0, y1] : List Ex).length = 2 from rfl] at hO ⊢
    exact ⟨⟨ql, cl, rfl, hO⟩, hb⟩
  have HC := Lib.hid HC
  go_upto_region 2 with (go_at_call 38; (refine HC.out.mono ?_; rintro e X ⟨⟨ql, cl, rfl, hO⟩, hbX⟩; have HO := Lib.hid hO; have HBX := Lib.hid hbX; have HE1X := HE1.out.on hbX; have hgX := HE1X.lt; have fgX := HE1X.fz; have e8 := HE1X.c 8 _ rfl; simp only at e8; clear hO hbX HE1X lt c8))
  have hQ := NQ.start rfl HB.out HE1.out HE2.out HGW.out HZ2.out HBX.out HO.out
  simp only at hQ
  obtain ⟨N, hN⟩ : ∃ N, N = X.setCell ⟨g, 8, none⟩ (.slice ql 2 cl) := ⟨_, rfl⟩
  rw [← hN] at hQ ⊢
  have HGN := Lib.hid (HG.out.on hQ.b)
  have HQ := Lib.hid hQ
  clear hN hgX fgX e8 HO HBX HC HE1 HE2 HB HZ2 HI
  obtain ⟨lt, cc, fz⟩ := hQ.x1
  obtain ⟨gl, cl', r0, r1, e2, hbg, hgl, hE, hp0, hp1⟩ := OwnX.two hQ.o
  simp only [Value.slice.injEq, true_and] at e2
  obtain ⟨rfl, rfl⟩ := e2
  have e0 := fun k u hu => OwnF.cellAt RawE.cells_len hE (j := 0) (x := r0) rfl (k := k) (u := u) hu
  have e1 := fun k u hu => OwnF.cellAt RawE.cells_len hE (j := 1) (x := r1) rfl (k := k) (u := u) hu
  obtain ⟨op0, ⟨vk0, vn0, vs0⟩, rel0, col0, nn0, s0, q0, len0, cc0⟩ := r0
  obtain ⟨op1, ⟨vk1, vn1, vs1⟩, rel1, col1, nn1, s1, q1, len1, cc1⟩ := r1
  have f0 := (e0 0 _ rfl).1
  have f1 := (e0 1 _ rfl).1
  have f2 := (e0 2 _ rfl).1
  have f3 := (e0 3 _ rfl).1
  have f4 := (e0 4 _ rfl).1
  have f5 := (e0 5 _ rfl).1
  have f6 := (e0 6 _ rfl).1
  have f7 := (e0 7 _ rfl).1
  have f8 := (e0 8 _ rfl).1
  have h0 := (e1 0 _ rfl).1
  have h1 := (e1 1 _ rfl).1
  have h2 := (e1 2 _ rfl).1
  have h3 := (e1 3 _ rfl).1
  have h4 := (e1 4 _ rfl).1
  have h5 := (e1 5 _ rfl).1
  have h6 := (e1 6 _ rfl).1
  have h7 := (e1 7 _ rfl).1
  have h8 := (e1 8 _ rfl).1
  simp only [Nat.zero_mul, Nat.one_mul, Nat.zero_add, Nat.add_zero, Nat.reduceAdd] at f0 f1 f2 f3 f4 f5 f6 f7 f8 h0 h1 h2 h3 h4 h5 h6 h7 h8
  clear e0 e1
  have HM0 := Lib.hid (ExMP.toM _ _ hp0)
  have HM1 := Lib.hid (ExMP.toM _ _ hp1)
  have HT0 := Lib.hid (fun (x : After N) => calls_after (text_any y0.norm _ x.W (ExM.ext x.below _ _ HM0.out) (HGN.out.on x.below) (by rw [norm_right]; exact HR.out y0 (by simp))))
  have HT1 := Lib.hid (fun (x : After N) => calls_after (text_any y1.norm _ x.W (ExM.ext x.below _ _ HM1.out) (HGN.out.on x.below) (by rw [norm_right]; exact HR.out y1 (by simp))))
  obtain ⟨P0, hP0⟩ : ∃ P, P = bsB y0.norm.print := ⟨_, rfl⟩
  obtain ⟨P1, hP1⟩ : ∃ P, P = bsB y1.norm.print := ⟨_, rfl⟩
  rw [← hP0] at HT0 HLT
  rw [← hP1] at HT1 HLT
  clear hP0 hP1
  have c0 := cc 0 _ rfl
  have c1 := cc 1 _ rfl
  have c2 := cc 2 _ rfl
  have c3 := cc 3 _ rfl
  have c4 := cc 4 _ rfl
  have c5 := cc 5 _ rfl
  have c6 := cc 6 _ rfl
  have c7 := cc 7 _ rfl
  have c8 := cc 8 _ rfl
  simp only at c0 c1 c2 c3 c4 c5 c6 c7 c8
  clear cc
  clear hE hp0 hp1 hQ c1 c2 c3 c4 c5 c6 c7
  go_upto_region 15 with fail
  have rc := fun (x : After N) => (x.cell g 8 lt).trans c8
  have rf0 := fun (x : After N) => (x.cell gl 0 hgl).trans f0
  have rf1 := fun (x : After N) => (x.cell gl 1 hgl).trans f1
  have rf2 := fun (x : After N) => (x.cell gl 2 hgl).trans f2
  have rf3 := fun (x : After N) => (x.cell gl 3 hgl).trans f3
  have rf4 := fun (x : After N) => (x.cell gl 4 hgl).trans f4
  have rf5 := fun (x : After N) => (x.cell gl 5 hgl).trans f5
  have rf6 := fun (x : After N) => (x.cell gl 6 hgl).trans f6
  have rf7 := fun (x : After N) => (x.cell gl 7 hgl).trans f7
  have rf8 := fun (x : After N) => (x.cell gl 8 hgl).trans f8
  have rh0 := fun (x : After N) => (x.cell gl 9 hgl).trans h0
  have rh1 := fun (x : After N) => (x.cell gl 10 hgl).trans h1
  have rh2 := fun (x : After N) => (x.cell gl 11 hgl).trans h2
  have rh3 := fun (x : After N) => (x.cell gl 12 hgl).trans h3
  have rh4 := fun (x : After N) => (x.cell gl 13 hgl).trans h4
  have rh5 := fun (x : After N) => (x.cell gl 14 hgl).trans h5
  have rh6 := fun (x : After N) => (x.cell gl 15 hgl).trans h6
  have rh7 := fun (x : After N) => (x.cell gl 16 hgl).trans h7
  have rh8 := fun (x : After N) => (x.cell gl 17 hgl).trans h8
  clear c0 c8 fz f0 f1 f2 f3 f4 f5 f6 f7 f8 h0 h1 h2 h3 h4 h5 h6 h7 h8
  have is := After.some N
  refine wp_region_after (by kernel_rfl) (by kernel_rfl) ?_
  repeat (quiet_step ((go_at_call 40; first | with_reducible exact HT0.out _ | with_reducible exact HT1.out _)))
  refine wpQuiet_nil ?_
  intro Wq hw
  obtain ⟨⟨Wq, hbq⟩, rfl⟩ := hw
  have HQ1 := Lib.hid (HQ.out.on hbq)
  clear lt rc rf0 rf1 rf2 rf3 rf4 rf5 rf6 rf7 rf8 rh0 rh1 rh2 rh3 rh4 rh5 rh6 rh7 rh8 HT0 HT1 hbq hgl hbg is
  rw [HLT.out]
  obtain ⟨lt, cc, fz⟩ := HQ1.out.x1
  have c0 := cc 0 _ rfl
  have c1 := cc 1 _ rfl
  have c2 := cc 2 _ rfl
  have c3 := cc 3 _ rfl
  have c4 := cc 4 _ rfl
  have c5 := cc 5 _ rfl
  have c6 := cc 6 _ rfl
  have c7 := cc 7 _ rfl
  have c8 := cc 8 _ rfl
  simp only at c0 c1 c2 c3 c4 c5 c6 c7 c8
  clear cc
  obtain ⟨ltR, cR, fR⟩ := HQ1.out.x2
  have d0 := cR 0 _ rfl
  have d1 := cR 1 _ rfl
  have d2 := cR 2 _ rfl
  have d3 := cR 3 _ rfl
  have d4 := cR 4 _ rfl
  have d5 := cR 5 _ rfl
  have d6 := cR 6 _ rfl
  have d7 := cR 7 _ rfl
  have d8 := cR 8 _ rfl
  clear cR
  go_wp2_with fail
  change bodyPost _ _ _ _ _ (setE Wq (g + 1) 0 ⟨op, v, rel, col, n, s, (some ⟨gl, 0, none⟩), 2, cl⟩)
  obtain ⟨hbQ, ⟨-, cQ, -⟩, hP⟩ := HQ1.out.done HV.out rfl rfl
  obtain ⟨Q, hQQ⟩ : ∃ Q, Q = setE Wq (g + 1) 0 ⟨op, v, rel, col, n, s, (some ⟨gl, 0, none⟩), 2, cl⟩ := ⟨_, rfl⟩
  rw [← hQQ] at hbQ cQ hP
  rw [← hQQ]
  have q0 := cQ 0 _ rfl
  have q1 := cQ 1 _ rfl
  have q2 := cQ 2 _ rfl
  have q3 := cQ 3 _ rfl
  have q4 := cQ 4 _ rfl
  have q5 := cQ 5 _ rfl
  have q6 := cQ 6 _ rfl
  have q7 := cQ 7 _ rfl
  have q8 := cQ 8 _ rfl
  clear hQQ cQ
  simp only at q0 q1 q2 q3 q4 q5 q6 q7 q8
  refine bodyPost_ret (v := .agg (exCells op v rel col n s (some ⟨gl, 0, none⟩) 2 cl).toArray) (by simp [results, Tryd.results23, go_sem, q0, q1, q2, q3, q4, q5, q6, q7, q8]) rfl ⟨⟨_, rfl, ?_⟩, hbQ⟩
  rw [HNRM.out]
  exact hP
set_option maxHeartbeats 8000000 in
theorem normC_10s (op : Int) (v : Val) (rel col n : Int) (s : ByteArray) (y0 y1 : Ex) (hop : op = 10) (hlt : Op.bytesLess y1.norm.print y0.norm.print = true) (IH : ∀ y ∈ [y0, y1], NormC y) : NormC (.mk op v rel col n s [y0, y1]) := by
  intro w cs hx hG hr
  have HR := Lib.hid (right_op hr).2
  have HI := Lib.hid IH
  have HG := Lib.hid hG
  rw [ExM.iff] at hx
  obtain ⟨hv, q, c, rfl, -, hl⟩ := hx
  have HV := Lib.hid hv
  have HL := Lib.hid hl
  clear hv hl hr IH hG
  have HNRM := Lib.hid (show (Ex.mk op v rel col n s [y0, y1]).norm = .mk op v rel col n s [y1.norm, y0.norm] by
    rw [Ex.norm, fixE, hop, normL, normL, normL, if_neg (by decide), if_neg (by decide)]
    show (if (true && Op.bytesLess y1.norm.print y0.norm.print) = true then _ else _) = _
    rw [hlt]; rfl)
  have HLT := Lib.hid (show Op.bytesLess (bsB y1.norm.print).toList (bsB y0.norm.print).toList = true by rw [ByteArray.toList_eq, ByteArray.toList_eq]; exact hlt)
  have b13 : (op == 13) = false := by rw [hop]; rfl
  have b14 : (op == 14) = false := by rw [hop]; rfl
  have b4 : (op == 4) = false := by rw [hop]; rfl
  have b6 : (op == 6) = false := by rw [hop]; rfl
  have b9 : (op == 9) = false := by rw [hop]; rfl
  have b10 : (op == 10) = true := by rw [hop]; rfl
  clear hop hlt
  obtain ⟨W1, hW1⟩ : ∃ W, W = w.alloc (.cells (exCells op v rel col n s q 2 c).toArray 26) := ⟨_, rfl⟩
  have E0 : XB W1 w.heap.size ⟨op, v, rel, col, n, s, q, 2, c⟩ := by rw [hW1]; exact XB.new w ⟨op, v, rel, col, n, s, q, 2, c⟩ _
  have z1 : W1.heap.size = w.heap.size + 1 := by rw [hW1]; simp
  obtain ⟨W, hW⟩ : ∃ W, W = W1.alloc (.cells rawZ.cells.toArray 26) := ⟨_, rfl⟩
  have b1 : Below W1.heap.size W1 W := by rw [hW]; (repeat (first | exact ext_refl _ | assumption | (refine ext_alloc ?_ _) | (refine ext_drewN ?_ _) | refine ext_drew ?_ | (refine ext_set (by first | (simp; done) | (simp; omega)) _ ?_) | (refine ext_trans ?_ (by assumption))))
  have E1 := E0.on b1
  have E2 : XB W (w.heap.size + 1) rawZ := by rw [hW, ← z1]; exact XB.new W1 rawZ _
  have b : Below w.heap.size w W := by rw [hW, hW1]; (repeat (first | exact ext_refl _ | assumption | (refine ext_alloc ?_ _) | (refine ext_drewN ?_ _) | refine ext_drew ?_ | (refine ext_set (by first | (simp; done) | (simp; omega)) _ ?_) | (refine ext_trans ?_ (by assumption))))
  have z2 : W.heap.size = w.heap.size + 2 := by rw [hW]; simp [z1]
  have HWW := Lib.hid (show W = (w.alloc (.cells (exCells op v rel col n s q 2 c).toArray 26)).alloc (.cells rawZ.cells.toArray 26) by rw [hW, hW1])
  clear hW hW1 E0 z1 b1
  go_enter Tryd.func23, Tryd.ntmps23
  go_upto_region 1 with fail
  change Code.wp _ _ _ _ ((w.alloc (.cells (exCells op v rel col n s q 2 c).toArray 26)).alloc (.cells rawZ.cells.toArray 26))
  rw [← HWW.out]
  clear HWW
  obtain ⟨g, hg⟩ : ∃ g, g = w.heap.size := ⟨_, rfl⟩
  have HGW := Lib.hid hg
  rw [← hg] at E1 E2 z2 ⊢
  have HB := Lib.hid b
  have HE1 := Lib.hid E1
  have HE2 := Lib.hid E2
  have HZ2 := Lib.hid z2
  clear hg b z2 E2
  have lt := E1.lt
  have c8 := E1.c 8 _ rfl
  clear E1
  simp only at c8
  have HC : Calls Tryd.prog 38 #[.slice q 2 c, .func (.func 23) #[] #[]] W fun e w' => (∃ ql cl, e = .returned (.slice ql 2 cl) ∧ OwnX w' W.heap.size (fun k => W.heap.size ≤ k) (.slice ql 2 cl) [y0.norm, y1.norm]) ∧ Below W.heap.size W w' := by
    have h := changed_any 23 [] Ex.norm [y0, y1] q c W (ExL.ext HB.out _ _ _ HL.out) (show 2 * 104 ≤ 140737488355328 by decide) (fun y hy W' cs hb hM => HI.out y hy W' cs hM (HG.out.on (HB.out.trans (hb.mono HB.out.size))) (HR.out y hy)) Tryd.enterNormal
    rw [show ([y0, y1] : List Ex).length = 2 from rfl] at h
    refine h.mono ?_
    rintro e W' ⟨⟨vl, rfl, hO⟩, hb⟩
    obtain ⟨ql, cl, rfl, -, -, -⟩ := hO.toL
    rw [List.length_map, show ([y0, y1] : List Ex).length = 2 from rfl] at hO ⊢
    exact ⟨⟨ql, cl, rfl, hO⟩, hb⟩
  have HC := Lib.hid HC
  go_upto_region 2 with (go_at_call 38; (refine HC.out.mono ?_; rintro e X ⟨⟨ql, cl, rfl, hO⟩, hbX⟩; have HO := Lib.hid hO; have HBX := Lib.hid hbX; have HE1X := HE1.out.on hbX; have hgX := HE1X.lt; have fgX := HE1X.fz; have e8 := HE1X.c 8 _ rfl; simp only at e8; clear hO hbX HE1X lt c8))
  have hQ := NQ.start rfl HB.out HE1.out HE2.out HGW.out HZ2.out HBX.out HO.out
  simp only at hQ
  obtain ⟨N, hN⟩ : ∃ N, N = X.setCell ⟨g, 8, none⟩ (.slice ql 2 cl) := ⟨_, rfl⟩
  rw [← hN] at hQ ⊢
  have HGN := Lib.hid (HG.out.on hQ.b)
  have HQ := Lib.hid hQ
  clear hN hgX fgX e8 HO HBX HC HE1 HE2 HB HZ2 HI
  obtain ⟨lt, cc, fz⟩ := hQ.x1
  obtain ⟨gl, cl', r0, r1, e2, hbg, hgl, hE, hp0, hp1⟩ := OwnX.two hQ.o
  simp only [Value.slice.injEq, true_and] at e2
  obtain ⟨rfl, rfl⟩ := e2
  have e0 := fun k u hu => OwnF.cellAt RawE.cells_len hE (j := 0) (x := r0) rfl (k := k) (u := u) hu
  have e1 := fun k u hu => OwnF.cellAt RawE.cells_len hE (j := 1) (x := r1) rfl (k := k) (u := u) hu
  obtain ⟨op0, ⟨vk0, vn0, vs0⟩, rel0, col0, nn0, s0, q0, len0, cc0⟩ := r0
  obtain ⟨op1, ⟨vk1, vn1, vs1⟩, rel1, col1, nn1, s1, q1, len1, cc1⟩ := r1
  have f0 := (e0 0 _ rfl).1
  have f1 := (e0 1 _ rfl).1
  have f2 := (e0 2 _ rfl).1
  have f3 := (e0 3 _ rfl).1
  have f4 := (e0 4 _ rfl).1
  have f5 := (e0 5 _ rfl).1
  have f6 := (e0 6 _ rfl).1
  have f7 := (e0 7 _ rfl).1
  have f8 := (e0 8 _ rfl).1
  have h0 := (e1 0 _ rfl).1
  have h1 := (e1 1 _ rfl).1
  have h2 := (e1 2 _ rfl).1
  have h3 := (e1 3 _ rfl).1
  have h4 := (e1 4 _ rfl).1
  have h5 := (e1 5 _ rfl).1
  have h6 := (e1 6 _ rfl).1
  have h7 := (e1 7 _ rfl).1
  have h8 := (e1 8 _ rfl).1
  simp only [Nat.zero_mul, Nat.one_mul, Nat.zero_add, Nat.add_zero, Nat.reduceAdd] at f0 f1 f2 f3 f4 f5 f6 f7 f8 h0 h1 h2 h3 h4 h5 h6 h7 h8
  clear e0 e1
  have HM0 := Lib.hid (ExMP.toM _ _ hp0)
  have HM1 := Lib.hid (ExMP.toM _ _ hp1)
  have HT0 := Lib.hid (fun (x : After N) => calls_after (text_any y0.norm _ x.W (ExM.ext x.below _ _ HM0.out) (HGN.out.on x.below) (by rw [norm_right]; exact HR.out y0 (by simp))))
  have HT1 := Lib.hid (fun (x : After N) => calls_after (text_any y1.norm _ x.W (ExM.ext x.below _ _ HM1.out) (HGN.out.on x.below) (by rw [norm_right]; exact HR.out y1 (by simp))))
  obtain ⟨P0, hP0⟩ : ∃ P, P = bsB y0.norm.print := ⟨_, rfl⟩
  obtain ⟨P1, hP1⟩ : ∃ P, P = bsB y1.norm.print := ⟨_, rfl⟩
  rw [← hP0] at HT0 HLT
  rw [← hP1] at HT1 HLT
  clear hP0 hP1
  have c0 := cc 0 _ rfl
  have c1 := cc 1 _ rfl
  have c2 := cc 2 _ rfl
  have c3 := cc 3 _ rfl
  have c4 := cc 4 _ rfl
  have c5 := cc 5 _ rfl
  have c6 := cc 6 _ rfl
  have c7 := cc 7 _ rfl
  have c8 := cc 8 _ rfl
  simp only at c0 c1 c2 c3 c4 c5 c6 c7 c8
  clear cc
  clear hE hp0 hp1 hQ c1 c2 c3 c4 c5 c6 c7
  go_upto_region 15 with fail
  have rc := fun (x : After N) => (x.cell g 8 lt).trans c8
  have rf0 := fun (x : After N) => (x.cell gl 0 hgl).trans f0
  have rf1 := fun (x : After N) => (x.cell gl 1 hgl).trans f1
  have rf2 := fun (x : After N) => (x.cell gl 2 hgl).trans f2
  have rf3 := fun (x : After N) => (x.cell gl 3 hgl).trans f3
  have rf4 := fun (x : After N) => (x.cell gl 4 hgl).trans f4
  have rf5 := fun (x : After N) => (x.cell gl 5 hgl).trans f5
  have rf6 := fun (x : After N) => (x.cell gl 6 hgl).trans f6
  have rf7 := fun (x : After N) => (x.cell gl 7 hgl).trans f7
  have rf8 := fun (x : After N) => (x.cell gl 8 hgl).trans f8
  have rh0 := fun (x : After N) => (x.cell gl 9 hgl).trans h0
  have rh1 := fun (x : After N) => (x.cell gl 10 hgl).trans h1
  have rh2 := fun (x : After N) => (x.cell gl 11 hgl).trans h2
  have rh3 := fun (x : After N) => (x.cell gl 12 hgl).trans h3
  have rh4 := fun (x : After N) => (x.cell gl 13 hgl).trans h4
  have rh5 := fun (x : After N) => (x.cell gl 14 hgl).trans h5
  have rh6 := fun (x : After N) => (x.cell gl 15 hgl).trans h6
  have rh7 := fun (x : After N) => (x.cell gl 16 hgl).trans h7
  have rh8 := fun (x : After N) => (x.cell gl 17 hgl).trans h8
  clear c0 c8 fz f0 f1 f2 f3 f4 f5 f6 f7 f8 h0 h1 h2 h3 h4 h5 h6 h7 h8
  have is := After.some N
  refine wp_region_after (by kernel_rfl) (by kernel_rfl) ?_
  repeat (quiet_step ((go_at_call 40; first | with_reducible exact HT0.out _ | with_reducible exact HT1.out _)))
  refine wpQuiet_nil ?_
  intro Wq hw
  obtain ⟨⟨Wq, hbq⟩, rfl⟩ := hw
  have HQ1 := Lib.hid (HQ.out.on hbq)
  clear lt rc rf0 rf1 rf2 rf3 rf4 rf5 rf6 rf7 rf8 rh0 rh1 rh2 rh3 rh4 rh5 rh6 rh7 rh8 HT0 HT1 hbq hgl hbg is
  rw [HLT.out]
  obtain ⟨lt, cc, fz⟩ := HQ1.out.x1
  have c0 := cc 0 _ rfl
  have c1 := cc 1 _ rfl
  have c2 := cc 2 _ rfl
  have c3 := cc 3 _ rfl
  have c4 := cc 4 _ rfl
  have c5 := cc 5 _ rfl
  have c6 := cc 6 _ rfl
  have c7 := cc 7 _ rfl
  have c8 := cc 8 _ rfl
  simp only at c0 c1 c2 c3 c4 c5 c6 c7 c8
  clear cc
  obtain ⟨gl2, cl2, s0, s1, e3, hbg2, -, hE2, hs0, hs1⟩ := OwnX.two HQ1.out.o
  simp only [Value.slice.injEq, Option.some.injEq, Addr.mk.injEq, and_true, true_and] at e3
  obtain ⟨rfl, rfl⟩ := e3
  have HX := Lib.hid (exchange_any (g + 2) gl cl s0 s1 Wq hE2)
  have HH := Lib.hid (And.intro hbg2 (And.intro hs0 hs1))
  clear hE2 hs0 hs1 hbg2
  go_upto_region 17 with (go_at_call 39; (refine HX.out.mono ?_; rintro e N2 ⟨rfl, hEE, hoo⟩; have HQ2 := Lib.hid (HQ1.out.swap HH.out.1 HH.out.2.1 HH.out.2.2 hEE hoo); clear hEE hoo))
  clear c0 c1 c2 c3 c4 c5 c6 c7 c8 fz lt
  obtain ⟨lt, cc, fz⟩ := HQ2.out.x1
  have c0 := cc 0 _ rfl
  have c1 := cc 1 _ rfl
  have c2 := cc 2 _ rfl
  have c3 := cc 3 _ rfl
  have c4 := cc 4 _ rfl
  have c5 := cc 5 _ rfl
  have c6 := cc 6 _ rfl
  have c7 := cc 7 _ rfl
  have c8 := cc 8 _ rfl
  simp only at c0 c1 c2 c3 c4 c5 c6 c7 c8
  clear cc
  obtain ⟨ltR, cR, fR⟩ := HQ2.out.x2
  have d0 := cR 0 _ rfl
  have d1 := cR 1 _ rfl
  have d2 := cR 2 _ rfl
  have d3 := cR 3 _ rfl
  have d4 := cR 4 _ rfl
  have d5 := cR 5 _ rfl
  have d6 := cR 6 _ rfl
  have d7 := cR 7 _ rfl
  have d8 := cR 8 _ rfl
  clear cR
  go_wp2_with fail
  change bodyPost _ _ _ _ _ (setE N2 (g + 1) 0 ⟨op, v, rel, col, n, s, (some ⟨gl, 0, none⟩), 2, cl⟩)
  obtain ⟨hbQ, ⟨-, cQ, -⟩, hP⟩ := HQ2.out.done HV.out rfl rfl
  obtain ⟨Q, hQQ⟩ : ∃ Q, Q = setE N2 (g + 1) 0 ⟨op, v, rel, col, n, s, (some ⟨gl, 0, none⟩), 2, cl⟩ := ⟨_, rfl⟩
  rw [← hQQ] at hbQ cQ hP
  rw [← hQQ]
  have q0 := cQ 0 _ rfl
  have q1 := cQ 1 _ rfl
  have q2 := cQ 2 _ rfl
  have q3 := cQ 3 _ rfl
  have q4 := cQ 4 _ rfl
  have q5 := cQ 5 _ rfl
  have q6 := cQ 6 _ rfl
  have q7 := cQ 7 _ rfl
  have q8 := cQ 8 _ rfl
  clear hQQ cQ
  simp only at q0 q1 q2 q3 q4 q5 q6 q7 q8
  refine bodyPost_ret (v := .agg (exCells op v rel col n s (some ⟨gl, 0, none⟩) 2 cl).toArray) (by simp [results, Tryd.results23, go_sem, q0, q1, q2, q3, q4, q5, q6, q7, q8]) rfl ⟨⟨_, rfl, ?_⟩, hbQ⟩
  rw [HNRM.out]
  exact hP
set_option maxHeartbeats 8000000 in
theorem normC_15 (op : Int) (v : Val) (rel col n : Int) (s : ByteArray) (y0 y1 : Ex) (hop : op = 15) (hlt : Op.bytesLess y1.norm.print y0.norm.print = false) (IH : ∀ y ∈ [y0, y1], NormC y) : NormC (.mk op v rel col n s [y0, y1]) := by
  intro w cs hx hG hr
  have HR := Lib.hid (right_op hr).2
  have HI := Lib.hid IH
  have HG := Lib.hid hG
  rw [ExM.iff] at hx
  obtain ⟨hv, q, c, rfl, -, hl⟩ := hx
  have HV := Lib.hid hv
  have HL := Lib.hid hl
  clear hv hl hr IH hG
  have HNRM := Lib.hid (show (Ex.mk op v rel col n s [y0, y1]).norm = .mk op v rel col n s [y0.norm, y1.norm] by
    rw [Ex.norm, fixE, hop, normL, normL, normL, if_neg (by decide), if_neg (by decide)]
    show (if (true && Op.bytesLess y1.norm.print y0.norm.print) = true then _ else _) = _
    rw [hlt]; rfl)
  have HLT := Lib.hid (show Op.bytesLess (bsB y1.norm.print).toList (bsB y0.norm.print).toList = false by rw [ByteArray.toList_eq, ByteArray.toList_eq]; exact hlt)
  have b13 : (op == 13) = false := by rw [hop]; rfl
  have b14 : (op == 14) = false := by rw [hop]; rfl
  have b4 : (op == 4) = false := by rw [hop]; rfl
  have b6 : (op == 6) = false := by rw [hop]; rfl
  have b9 : (op == 9) = false := by rw [hop]; rfl
  have b10 : (op == 10) = false := by rw [hop]; rfl
  have b15 : (op == 15) = true := by rw [hop]; rfl
  clear hop hlt
  obtain ⟨W1, hW1⟩ : ∃ W, W = w.alloc (.cells (exCells op v rel col n s q 2 c).toArray 26) := ⟨_, rfl⟩
  have E0 : XB W1 w.heap.size ⟨op, v, rel, col, n, s, q, 2, c⟩ := by rw [hW1]; exact XB.new w ⟨op, v, rel, col, n, s, q, 2, c⟩ _
  have z1 : W1.heap.size = w.heap.size + 1 := by rw [hW1]; simp
  obtain ⟨W, hW⟩ : ∃ W, W = W1.alloc (.cells rawZ.cells.toArray 26) := ⟨_, rfl⟩
  have b1 : Below W1.heap.size W1 W := by rw [hW]; (repeat (first | exact ext_refl _ | assumption | (refine ext_alloc ?_ _) | (refine ext_drewN ?_ _) | refine ext_drew ?_ | (refine ext_set (by first | (simp; done) | (simp; omega)) _ ?_) | (refine ext_trans ?_ (by assumption))))
  have E1 := E0.on b1
  have E2 : XB W (w.heap.size + 1) rawZ := by rw [hW, ← z1]; exact XB.new W1 rawZ _
  have b : Below w.heap.size w W := by rw [hW, hW1]; (repeat (first | exact ext_refl _ | assumption | (refine ext_alloc ?_ _) | (refine ext_drewN ?_ _) | refine ext_drew ?_ | (refine ext_set (by first | (simp; done) | (simp; omega)) _ ?_) | (refine ext_trans ?_ (by assumption))))
  have z2 : W.heap.size = w.heap.size + 2 := by rw [hW]; simp [z1]
  have HWW := Lib.hid (show W = (w.alloc (.cells (exCells op v rel col n s q 2 c).toArray 26)).alloc (.cells rawZ.cells.toArray 26) by rw [hW, hW1])
  clear hW hW1 E0 z1 b1
  go_enter Tryd.func23, Tryd.ntmps23
  go_upto_region 1 with fail
  change Code.wp _ _ _ _ ((w.alloc (.cells (exCells op v rel col n s q 2 c).toArray 26)).alloc (.cells rawZ.cells.toArray 26))
  rw [← HWW.out]
  clear HWW
  obtain ⟨g, hg⟩ : ∃ g, g = w.heap.size := ⟨_, rfl⟩
  have HGW := Lib.hid hg
  rw [← hg] at E1 E2 z2 ⊢
  have HB := Lib.hid b
  have HE1 := Lib.hid E1
  have HE2 := Lib.hid E2
  have HZ2 := Lib.hid z2
  clear hg b z2 E2
  have lt := E1.lt
  have c8 := E1.c 8 _ rfl
  clear E1
  simp only at c8
  have HC : Calls Tryd.prog 38 #[.slice q 2 c, .func (.func 23) #[] #[]] W fun e w' => (∃ ql cl, e = .returned (.slice ql 2 cl) ∧ OwnX w' W.heap.size (fun k => W.heap.size ≤ k) (.slice ql 2 cl) [y0.norm, y1.norm]) ∧ Below W.heap.size W w' := by
    have h := changed_any 23 [] Ex.norm [y0, y1] q c W (ExL.ext HB.out _ _ _ HL.out) (show 2 * 104 ≤ 140737488355328 by decide) (fun y hy W' cs hb hM => HI.out y hy W' cs hM (HG.out.on (HB.out.trans (hb.mono HB.out.size))) (HR.out y hy)) Tryd.enterNormal
    rw [show ([y0, y1] : List Ex).length = 2 from rfl] at h
    refine h.mono ?_
    rintro e W' ⟨⟨vl, rfl, hO⟩, hb⟩
    obtain ⟨ql, cl, rfl, -, -, -⟩ := hO.toL
    rw [List.length_map, show ([y0, y1] : List Ex).length = 2 from rfl] at hO ⊢
    exact ⟨⟨ql, cl, rfl, hO⟩, hb⟩
  have HC := Lib.hid HC
  go_upto_region 2 with (go_at_call 38; (refine HC.out.mono ?_; rintro e X ⟨⟨ql, cl, rfl, hO⟩, hbX⟩; have HO := Lib.hid hO; have HBX := Lib.hid hbX; have HE1X := HE1.out.on hbX; have hgX := HE1X.lt; have fgX := HE1X.fz; have e8 := HE1X.c 8 _ rfl; simp only at e8; clear hO hbX HE1X lt c8))
  have hQ := NQ.start rfl HB.out HE1.out HE2.out HGW.out HZ2.out HBX.out HO.out
  simp only at hQ
  obtain ⟨N, hN⟩ : ∃ N, N = X.setCell ⟨g, 8, none⟩ (.slice ql 2 cl) := ⟨_, rfl⟩
  rw [← hN] at hQ ⊢
  have HGN := Lib.hid (HG.out.on hQ.b)
  have HQ := Lib.hid hQ
  clear hN hgX fgX e8 HO HBX HC HE1 HE2 HB HZ2 HI
  obtain ⟨lt, cc, fz⟩ := hQ.x1
  obtain ⟨gl, cl', r0, r1, e2, hbg, hgl, hE, hp0, hp1⟩ := OwnX.two hQ.o
  simp only [Value.slice.injEq, true_and] at e2
  obtain ⟨rfl, rfl⟩ := e2
  have e0 := fun k u hu => OwnF.cellAt RawE.cells_len hE (j := 0) (x := r0) rfl (k := k) (u := u) hu
  have e1 := fun k u hu => OwnF.cellAt RawE.cells_len hE (j := 1) (x := r1) rfl (k := k) (u := u) hu
  obtain ⟨op0, ⟨vk0, vn0, vs0⟩, rel0, col0, nn0, s0, q0, len0, cc0⟩ := r0
  obtain ⟨op1, ⟨vk1, vn1, vs1⟩, rel1, col1, nn1, s1, q1, len1, cc1⟩ := r1
  have f0 := (e0 0 _ rfl).1
  have f1 := (e0 1 _ rfl).1
  have f2 := (e0 2 _ rfl).1
  have f3 := (e0 3 _ rfl).1
  have f4 := (e0 4 _ rfl).1
  have f5 := (e0 5 _ rfl).1
  have f6 := (e0 6 _ rfl).1
  have f7 := (e0 7 _ rfl).1
  have f8 := (e0 8 _ rfl).1
  have h0 := (e1 0 _ rfl).1
  have h1 := (e1 1 _ rfl).1
  have h2 := (e1 2 _ rfl).1
  have h3 := (e1 3 _ rfl).1
  have h4 := (e1 4 _ rfl).1
  have h5 := (e1 5 _ rfl).1
  have h6 := (e1 6 _ rfl).1
  have h7 := (e1 7 _ rfl).1
  have h8 := (e1 8 _ rfl).1
  simp only [Nat.zero_mul, Nat.one_mul, Nat.zero_add, Nat.add_zero, Nat.reduceAdd] at f0 f1 f2 f3 f4 f5 f6 f7 f8 h0 h1 h2 h3 h4 h5 h6 h7 h8
  clear e0 e1
  have HM0 := Lib.hid (ExMP.toM _ _ hp0)
  have HM1 := Lib.hid (ExMP.toM _ _ hp1)
  have HT0 := Lib.hid (fun (x : After N) => calls_after (text_any y0.norm _ x.W (ExM.ext x.below _ _ HM0.out) (HGN.out.on x.below) (by rw [norm_right]; exact HR.out y0 (by simp))))
  have HT1 := Lib.hid (fun (x : After N) => calls_after (text_any y1.norm _ x.W (ExM.ext x.below _ _ HM1.out) (HGN.out.on x.below) (by rw [norm_right]; exact HR.out y1 (by simp))))
  obtain ⟨P0, hP0⟩ : ∃ P, P = bsB y0.norm.print := ⟨_, rfl⟩
  obtain ⟨P1, hP1⟩ : ∃ P, P = bsB y1.norm.print := ⟨_, rfl⟩
  rw [← hP0] at HT0 HLT
  rw [← hP1] at HT1 HLT
  clear hP0 hP1
  have c0 := cc 0 _ rfl
  have c1 := cc 1 _ rfl
  have c2 := cc 2 _ rfl
  have c3 := cc 3 _ rfl
  have c4 := cc 4 _ rfl
  have c5 := cc 5 _ rfl
  have c6 := cc 6 _ rfl
  have c7 := cc 7 _ rfl
  have c8 := cc 8 _ rfl
  simp only at c0 c1 c2 c3 c4 c5 c6 c7 c8
  clear cc
  clear hE hp0 hp1 hQ c1 c2 c3 c4 c5 c6 c7
  go_upto_region 15 with fail
  have rc := fun (x : After N) => (x.cell g 8 lt).trans c8
  have rf0 := fun (x : After N) => (x.cell gl 0 hgl).trans f0
  have rf1 := fun (x : After N) => (x.cell gl 1 hgl).trans f1
  have rf2 := fun (x : After N) => (x.cell gl 2 hgl).trans f2
  have rf3 := fun (x : After N) => (x.cell gl 3 hgl).trans f3
  have rf4 := fun (x : After N) => (x.cell gl 4 hgl).trans f4
  have rf5 := fun (x : After N) => (x.cell gl 5 hgl).trans f5
  have rf6 := fun (x : After N) => (x.cell gl 6 hgl).trans f6
  have rf7 := fun (x : After N) => (x.cell gl 7 hgl).trans f7
  have rf8 := fun (x : After N) => (x.cell gl 8 hgl).trans f8
  have rh0 := fun (x : After N) => (x.cell gl 9 hgl).trans h0
  have rh1 := fun (x : After N) => (x.cell gl 10 hgl).trans h1
  have rh2 := fun (x : After N) => (x.cell gl 11 hgl).trans h2
  have rh3 := fun (x : After N) => (x.cell gl 12 hgl).trans h3
  have rh4 := fun (x : After N) => (x.cell gl 13 hgl).trans h4
  have rh5 := fun (x : After N) => (x.cell gl 14 hgl).trans h5
  have rh6 := fun (x : After N) => (x.cell gl 15 hgl).trans h6
  have rh7 := fun (x : After N) => (x.cell gl 16 hgl).trans h7
  have rh8 := fun (x : After N) => (x.cell gl 17 hgl).trans h8
  clear c0 c8 fz f0 f1 f2 f3 f4 f5 f6 f7 f8 h0 h1 h2 h3 h4 h5 h6 h7 h8
  have is := After.some N
  refine wp_region_after (by kernel_rfl) (by kernel_rfl) ?_
  repeat (quiet_step ((go_at_call 40; first | with_reducible exact HT0.out _ | with_reducible exact HT1.out _)))
  refine wpQuiet_nil ?_
  intro Wq hw
  obtain ⟨⟨Wq, hbq⟩, rfl⟩ := hw
  have HQ1 := Lib.hid (HQ.out.on hbq)
  clear lt rc rf0 rf1 rf2 rf3 rf4 rf5 rf6 rf7 rf8 rh0 rh1 rh2 rh3 rh4 rh5 rh6 rh7 rh8 HT0 HT1 hbq hgl hbg is
  rw [HLT.out]
  obtain ⟨lt, cc, fz⟩ := HQ1.out.x1
  have c0 := cc 0 _ rfl
  have c1 := cc 1 _ rfl
  have c2 := cc 2 _ rfl
  have c3 := cc 3 _ rfl
  have c4 := cc 4 _ rfl
  have c5 := cc 5 _ rfl
  have c6 := cc 6 _ rfl
  have c7 := cc 7 _ rfl
  have c8 := cc 8 _ rfl
  simp only at c0 c1 c2 c3 c4 c5 c6 c7 c8
  clear cc
  obtain ⟨ltR, cR, fR⟩ := HQ1.out.x2
  have d0 := cR 0 _ rfl
  have d1 := cR 1 _ rfl
  have d2 := cR 2 _ rfl
  have d3 := cR 3 _ rfl
  have d4 := cR 4 _ rfl
  have d5 := cR 5 _ rfl
  have d6 := cR 6 _ rfl
  have d7 := cR 7 _ rfl
  have d8 := cR 8 _ rfl
  clear cR
  go_wp2_with fail
  change bodyPost _ _ _ _ _ (setE Wq (g + 1) 0 ⟨op, v, rel, col, n, s, (some ⟨gl, 0, none⟩), 2, cl⟩)
  obtain ⟨hbQ, ⟨-, cQ, -⟩, hP⟩ := HQ1.out.done HV.out rfl rfl
  obtain ⟨Q, hQQ⟩ : ∃ Q, Q = setE Wq (g + 1) 0 ⟨op, v, rel, col, n, s, (some ⟨gl, 0, none⟩), 2, cl⟩ := ⟨_, rfl⟩
  rw [← hQQ] at hbQ cQ hP
  rw [← hQQ]
  have q0 := cQ 0 _ rfl
  have q1 := cQ 1 _ rfl
  have q2 := cQ 2 _ rfl
  have q3 := cQ 3 _ rfl
  have q4 := cQ 4 _ rfl
  have q5 := cQ 5 _ rfl
  have q6 := cQ 6 _ rfl
  have q7 := cQ 7 _ rfl
  have q8 := cQ 8 _ rfl
  clear hQQ cQ
  simp only at q0 q1 q2 q3 q4 q5 q6 q7 q8
  refine bodyPost_ret (v := .agg (exCells op v rel col n s (some ⟨gl, 0, none⟩) 2 cl).toArray) (by simp [results, Tryd.results23, go_sem, q0, q1, q2, q3, q4, q5, q6, q7, q8]) rfl ⟨⟨_, rfl, ?_⟩, hbQ⟩
  rw [HNRM.out]
  exact hP
set_option maxHeartbeats 8000000 in
theorem normC_15s (op : Int) (v : Val) (rel col n : Int) (s : ByteArray) (y0 y1 : Ex) (hop : op = 15) (hlt : Op.bytesLess y1.norm.print y0.norm.print = true) (IH : ∀ y ∈ [y0, y1], NormC y) : NormC (.mk op v rel col n s [y0, y1]) := by
  intro w cs hx hG hr
  have HR := Lib.hid (right_op hr).2
  have HI := Lib.hid IH
  have HG := Lib.hid hG
  rw [ExM.iff] at hx
  obtain ⟨hv, q, c, rfl, -, hl⟩ := hx
  have HV := Lib.hid hv
  have HL := Lib.hid hl
  clear hv hl hr IH hG
  have HNRM := Lib.hid (show (Ex.mk op v rel col n s [y0, y1]).norm = .mk op v rel col n s [y1.norm, y0.norm] by
    rw [Ex.norm, fixE, hop, normL, normL, normL, if_neg (by decide), if_neg (by decide)]
    show (if (true && Op.bytesLess y1.norm.print y0.norm.print) = true then _ else _) = _
    rw [hlt]; rfl)
  have HLT := Lib.hid (show Op.bytesLess (bsB y1.norm.print).toList (bsB y0.norm.print).toList = true by rw [ByteArray.toList_eq, ByteArray.toList_eq]; exact hlt)
  have b13 : (op == 13) = false := by rw [hop]; rfl
  have b14 : (op == 14) = false := by rw [hop]; rfl
  have b4 : (op == 4) = false := by rw [hop]; rfl
  have b6 : (op == 6) = false := by rw [hop]; rfl
  have b9 : (op == 9) = false := by rw [hop]; rfl
  have b10 : (op == 10) = false := by rw [hop]; rfl
  have b15 : (op == 15) = true := by rw [hop]; rfl
  clear hop hlt
  obtain ⟨W1, hW1⟩ : ∃ W, W = w.alloc (.cells (exCells op v rel col n s q 2 c).toArray 26) := ⟨_, rfl⟩
  have E0 : XB W1 w.heap.size ⟨op, v, rel, col, n, s, q, 2, c⟩ := by rw [hW1]; exact XB.new w ⟨op, v, rel, col, n, s, q, 2, c⟩ _
  have z1 : W1.heap.size = w.heap.size + 1 := by rw [hW1]; simp
  obtain ⟨W, hW⟩ : ∃ W, W = W1.alloc (.cells rawZ.cells.toArray 26) := ⟨_, rfl⟩
  have b1 : Below W1.heap.size W1 W := by rw [hW]; (repeat (first | exact ext_refl _ | assumption | (refine ext_alloc ?_ _) | (refine ext_drewN ?_ _) | refine ext_drew ?_ | (refine ext_set (by first | (simp; done) | (simp; omega)) _ ?_) | (refine ext_trans ?_ (by assumption))))
  have E1 := E0.on b1
  have E2 : XB W (w.heap.size + 1) rawZ := by rw [hW, ← z1]; exact XB.new W1 rawZ _
  have b : Below w.heap.size w W := by rw [hW, hW1]; (repeat (first | exact ext_refl _ | assumption | (refine ext_alloc ?_ _) | (refine ext_drewN ?_ _) | refine ext_drew ?_ | (refine ext_set (by first | (simp; done) | (simp; omega)) _ ?_) | (refine ext_trans ?_ (by assumption))))
  have z2 : W.heap.size = w.heap.size + 2 := by rw [hW]; simp [z1]
  have HWW := Lib.hid (show W = (w.alloc (.cells (exCells op v rel col n s q 2 c).toArray 26)).alloc (.cells rawZ.cells.toArray 26) by rw [hW, hW1])
  clear hW hW1 E0 z1 b1
  go_enter Tryd.func23, Tryd.ntmps23
  go_upto_region 1 with fail
  change Code.wp _ _ _ _ ((w.alloc (.cells (exCells op v rel col n s q 2 c).toArray 26)).alloc (.cells rawZ.cells.toArray 26))
  rw [← HWW.out]
  clear HWW
  obtain ⟨g, hg⟩ : ∃ g, g = w.heap.size := ⟨_, rfl⟩
  have HGW := Lib.hid hg
  rw [← hg] at E1 E2 z2 ⊢
  have HB := Lib.hid b
  have HE1 := Lib.hid E1
  have HE2 := Lib.hid E2
  have HZ2 := Lib.hid z2
  clear hg b z2 E2
  have lt := E1.lt
  have c8 := E1.c 8 _ rfl
  clear E1
  simp only at c8
  have HC : Calls Tryd.prog 38 #[.slice q 2 c, .func (.func 23) #[] #[]] W fun e w' => (∃ ql cl, e = .returned (.slice ql 2 cl) ∧ OwnX w' W.heap.size (fun k => W.heap.size ≤ k) (.slice ql 2 cl) [y0.norm, y1.norm]) ∧ Below W.heap.size W w' := by
    have h := changed_any 23 [] Ex.norm [y0, y1] q c W (ExL.ext HB.out _ _ _ HL.out) (show 2 * 104 ≤ 140737488355328 by decide) (fun y hy W' cs hb hM => HI.out y hy W' cs hM (HG.out.on (HB.out.trans (hb.mono HB.out.size))) (HR.out y hy)) Tryd.enterNormal
    rw [show ([y0, y1] : List Ex).length = 2 from rfl] at h
    refine h.mono ?_
    rintro e W' ⟨⟨vl, rfl, hO⟩, hb⟩
    obtain ⟨ql, cl, rfl, -, -, -⟩ := hO.toL
    rw [List.length_map, show ([y0, y1] : List Ex).length = 2 from rfl] at hO ⊢
    exact ⟨⟨ql, cl, rfl, hO⟩, hb⟩
  have HC := Lib.hid HC
  go_upto_region 2 with (go_at_call 38; (refine HC.out.mono ?_; rintro e X ⟨⟨ql, cl, rfl, hO⟩, hbX⟩; have HO := Lib.hid hO; have HBX := Lib.hid hbX; have HE1X := HE1.out.on hbX; have hgX := HE1X.lt; have fgX := HE1X.fz; have e8 := HE1X.c 8 _ rfl; simp only at e8; clear hO hbX HE1X lt c8))
  have hQ := NQ.start rfl HB.out HE1.out HE2.out HGW.out HZ2.out HBX.out HO.out
  simp only at hQ
  obtain ⟨N, hN⟩ : ∃ N, N = X.setCell ⟨g, 8, none⟩ (.slice ql 2 cl) := ⟨_, rfl⟩
  rw [← hN] at hQ ⊢
  have HGN := Lib.hid (HG.out.on hQ.b)
  have HQ := Lib.hid hQ
  clear hN hgX fgX e8 HO HBX HC HE1 HE2 HB HZ2 HI
  obtain ⟨lt, cc, fz⟩ := hQ.x1
  obtain ⟨gl, cl', r0, r1, e2, hbg, hgl, hE, hp0, hp1⟩ := OwnX.two hQ.o
  simp only [Value.slice.injEq, true_and] at e2
  obtain ⟨rfl, rfl⟩ := e2
  have e0 := fun k u hu => OwnF.cellAt RawE.cells_len hE (j := 0) (x := r0) rfl (k := k) (u := u) hu
  have e1 := fun k u hu => OwnF.cellAt RawE.cells_len hE (j := 1) (x := r1) rfl (k := k) (u := u) hu
  obtain ⟨op0, ⟨vk0, vn0, vs0⟩, rel0, col0, nn0, s0, q0, len0, cc0⟩ := r0
  obtain ⟨op1, ⟨vk1, vn1, vs1⟩, rel1, col1, nn1, s1, q1, len1, cc1⟩ := r1
  have f0 := (e0 0 _ rfl).1
  have f1 := (e0 1 _ rfl).1
  have f2 := (e0 2 _ rfl).1
  have f3 := (e0 3 _ rfl).1
  have f4 := (e0 4 _ rfl).1
  have f5 := (e0 5 _ rfl).1
  have f6 := (e0 6 _ rfl).1
  have f7 := (e0 7 _ rfl).1
  have f8 := (e0 8 _ rfl).1
  have h0 := (e1 0 _ rfl).1
  have h1 := (e1 1 _ rfl).1
  have h2 := (e1 2 _ rfl).1
  have h3 := (e1 3 _ rfl).1
  have h4 := (e1 4 _ rfl).1
  have h5 := (e1 5 _ rfl).1
  have h6 := (e1 6 _ rfl).1
  have h7 := (e1 7 _ rfl).1
  have h8 := (e1 8 _ rfl).1
  simp only [Nat.zero_mul, Nat.one_mul, Nat.zero_add, Nat.add_zero, Nat.reduceAdd] at f0 f1 f2 f3 f4 f5 f6 f7 f8 h0 h1 h2 h3 h4 h5 h6 h7 h8
  clear e0 e1
  have HM0 := Lib.hid (ExMP.toM _ _ hp0)
  have HM1 := Lib.hid (ExMP.toM _ _ hp1)
  have HT0 := Lib.hid (fun (x : After N) => calls_after (text_any y0.norm _ x.W (ExM.ext x.below _ _ HM0.out) (HGN.out.on x.below) (by rw [norm_right]; exact HR.out y0 (by simp))))
  have HT1 := Lib.hid (fun (x : After N) => calls_after (text_any y1.norm _ x.W (ExM.ext x.below _ _ HM1.out) (HGN.out.on x.below) (by rw [norm_right]; exact HR.out y1 (by simp))))
  obtain ⟨P0, hP0⟩ : ∃ P, P = bsB y0.norm.print := ⟨_, rfl⟩
  obtain ⟨P1, hP1⟩ : ∃ P, P = bsB y1.norm.print := ⟨_, rfl⟩
  rw [← hP0] at HT0 HLT
  rw [← hP1] at HT1 HLT
  clear hP0 hP1
  have c0 := cc 0 _ rfl
  have c1 := cc 1 _ rfl
  have c2 := cc 2 _ rfl
  have c3 := cc 3 _ rfl
  have c4 := cc 4 _ rfl
  have c5 := cc 5 _ rfl
  have c6 := cc 6 _ rfl
  have c7 := cc 7 _ rfl
  have c8 := cc 8 _ rfl
  simp only at c0 c1 c2 c3 c4 c5 c6 c7 c8
  clear cc
  clear hE hp0 hp1 hQ c1 c2 c3 c4 c5 c6 c7
  go_upto_region 15 with fail
  have rc := fun (x : After N) => (x.cell g 8 lt).trans c8
  have rf0 := fun (x : After N) => (x.cell gl 0 hgl).trans f0
  have rf1 := fun (x : After N) => (x.cell gl 1 hgl).trans f1
  have rf2 := fun (x : After N) => (x.cell gl 2 hgl).trans f2
  have rf3 := fun (x : After N) => (x.cell gl 3 hgl).trans f3
  have rf4 := fun (x : After N) => (x.cell gl 4 hgl).trans f4
  have rf5 := fun (x : After N) => (x.cell gl 5 hgl).trans f5
  have rf6 := fun (x : After N) => (x.cell gl 6 hgl).trans f6
  have rf7 := fun (x : After N) => (x.cell gl 7 hgl).trans f7
  have rf8 := fun (x : After N) => (x.cell gl 8 hgl).trans f8
  have rh0 := fun (x : After N) => (x.cell gl 9 hgl).trans h0
  have rh1 := fun (x : After N) => (x.cell gl 10 hgl).trans h1
  have rh2 := fun (x : After N) => (x.cell gl 11 hgl).trans h2
  have rh3 := fun (x : After N) => (x.cell gl 12 hgl).trans h3
  have rh4 := fun (x : After N) => (x.cell gl 13 hgl).trans h4
  have rh5 := fun (x : After N) => (x.cell gl 14 hgl).trans h5
  have rh6 := fun (x : After N) => (x.cell gl 15 hgl).trans h6
  have rh7 := fun (x : After N) => (x.cell gl 16 hgl).trans h7
  have rh8 := fun (x : After N) => (x.cell gl 17 hgl).trans h8
  clear c0 c8 fz f0 f1 f2 f3 f4 f5 f6 f7 f8 h0 h1 h2 h3 h4 h5 h6 h7 h8
  have is := After.some N
  refine wp_region_after (by kernel_rfl) (by kernel_rfl) ?_
  repeat (quiet_step ((go_at_call 40; first | with_reducible exact HT0.out _ | with_reducible exact HT1.out _)))
  refine wpQuiet_nil ?_
  intro Wq hw
  obtain ⟨⟨Wq, hbq⟩, rfl⟩ := hw
  have HQ1 := Lib.hid (HQ.out.on hbq)
  clear lt rc rf0 rf1 rf2 rf3 rf4 rf5 rf6 rf7 rf8 rh0 rh1 rh2 rh3 rh4 rh5 rh6 rh7 rh8 HT0 HT1 hbq hgl hbg is
  rw [HLT.out]
  obtain ⟨lt, cc, fz⟩ := HQ1.out.x1
  have c0 := cc 0 _ rfl
  have c1 := cc 1 _ rfl
  have c2 := cc 2 _ rfl
  have c3 := cc 3 _ rfl
  have c4 := cc 4 _ rfl
  have c5 := cc 5 _ rfl
  have c6 := cc 6 _ rfl
  have c7 := cc 7 _ rfl
  have c8 := cc 8 _ rfl
  simp only at c0 c1 c2 c3 c4 c5 c6 c7 c8
  clear cc
  obtain ⟨gl2, cl2, s0, s1, e3, hbg2, -, hE2, hs0, hs1⟩ := OwnX.two HQ1.out.o
  simp only [Value.slice.injEq, Option.some.injEq, Addr.mk.injEq, and_true, true_and] at e3
  obtain ⟨rfl, rfl⟩ := e3
  have HX := Lib.hid (exchange_any (g + 2) gl cl s0 s1 Wq hE2)
  have HH := Lib.hid (And.intro hbg2 (And.intro hs0 hs1))
  clear hE2 hs0 hs1 hbg2
  go_upto_region 17 with (go_at_call 39; (refine HX.out.mono ?_; rintro e N2 ⟨rfl, hEE, hoo⟩; have HQ2 := Lib.hid (HQ1.out.swap HH.out.1 HH.out.2.1 HH.out.2.2 hEE hoo); clear hEE hoo))
  clear c0 c1 c2 c3 c4 c5 c6 c7 c8 fz lt
  obtain ⟨lt, cc, fz⟩ := HQ2.out.x1
  have c0 := cc 0 _ rfl
  have c1 := cc 1 _ rfl
  have c2 := cc 2 _ rfl
  have c3 := cc 3 _ rfl
  have c4 := cc 4 _ rfl
  have c5 := cc 5 _ rfl
  have c6 := cc 6 _ rfl
  have c7 := cc 7 _ rfl
  have c8 := cc 8 _ rfl
  simp only at c0 c1 c2 c3 c4 c5 c6 c7 c8
  clear cc
  obtain ⟨ltR, cR, fR⟩ := HQ2.out.x2
  have d0 := cR 0 _ rfl
  have d1 := cR 1 _ rfl
  have d2 := cR 2 _ rfl
  have d3 := cR 3 _ rfl
  have d4 := cR 4 _ rfl
  have d5 := cR 5 _ rfl
  have d6 := cR 6 _ rfl
  have d7 := cR 7 _ rfl
  have d8 := cR 8 _ rfl
  clear cR
  go_wp2_with fail
  change bodyPost _ _ _ _ _ (setE N2 (g + 1) 0 ⟨op, v, rel, col, n, s, (some ⟨gl, 0, none⟩), 2, cl⟩)
  obtain ⟨hbQ, ⟨-, cQ, -⟩, hP⟩ := HQ2.out.done HV.out rfl rfl
  obtain ⟨Q, hQQ⟩ : ∃ Q, Q = setE N2 (g + 1) 0 ⟨op, v, rel, col, n, s, (some ⟨gl, 0, none⟩), 2, cl⟩ := ⟨_, rfl⟩
  rw [← hQQ] at hbQ cQ hP
  rw [← hQQ]
  have q0 := cQ 0 _ rfl
  have q1 := cQ 1 _ rfl
  have q2 := cQ 2 _ rfl
  have q3 := cQ 3 _ rfl
  have q4 := cQ 4 _ rfl
  have q5 := cQ 5 _ rfl
  have q6 := cQ 6 _ rfl
  have q7 := cQ 7 _ rfl
  have q8 := cQ 8 _ rfl
  clear hQQ cQ
  simp only at q0 q1 q2 q3 q4 q5 q6 q7 q8
  refine bodyPost_ret (v := .agg (exCells op v rel col n s (some ⟨gl, 0, none⟩) 2 cl).toArray) (by simp [results, Tryd.results23, go_sem, q0, q1, q2, q3, q4, q5, q6, q7, q8]) rfl ⟨⟨_, rfl, ?_⟩, hbQ⟩
  rw [HNRM.out]
  exact hP
set_option maxHeartbeats 8000000 in
theorem normC_16 (op : Int) (v : Val) (rel col n : Int) (s : ByteArray) (y0 y1 : Ex) (hop : op = 16) (hlt : Op.bytesLess y1.norm.print y0.norm.print = false) (IH : ∀ y ∈ [y0, y1], NormC y) : NormC (.mk op v rel col n s [y0, y1]) := by
  intro w cs hx hG hr
  have HR := Lib.hid (right_op hr).2
  have HI := Lib.hid IH
  have HG := Lib.hid hG
  rw [ExM.iff] at hx
  obtain ⟨hv, q, c, rfl, -, hl⟩ := hx
  have HV := Lib.hid hv
  have HL := Lib.hid hl
  clear hv hl hr IH hG
  have HNRM := Lib.hid (show (Ex.mk op v rel col n s [y0, y1]).norm = .mk op v rel col n s [y0.norm, y1.norm] by
    rw [Ex.norm, fixE, hop, normL, normL, normL, if_neg (by decide), if_neg (by decide)]
    show (if (true && Op.bytesLess y1.norm.print y0.norm.print) = true then _ else _) = _
    rw [hlt]; rfl)
  have HLT := Lib.hid (show Op.bytesLess (bsB y1.norm.print).toList (bsB y0.norm.print).toList = false by rw [ByteArray.toList_eq, ByteArray.toList_eq]; exact hlt)
  have b13 : (op == 13) = false := by rw [hop]; rfl
  have b14 : (op == 14) = false := by rw [hop]; rfl
  have b4 : (op == 4) = false := by rw [hop]; rfl
  have b6 : (op == 6) = false := by rw [hop]; rfl
  have b9 : (op == 9) = false := by rw [hop]; rfl
  have b10 : (op == 10) = false := by rw [hop]; rfl
  have b15 : (op == 15) = false := by rw [hop]; rfl
  have b16 : (op == 16) = true := by rw [hop]; rfl
  clear hop hlt
  obtain ⟨W1, hW1⟩ : ∃ W, W = w.alloc (.cells (exCells op v rel col n s q 2 c).toArray 26) := ⟨_, rfl⟩
  have E0 : XB W1 w.heap.size ⟨op, v, rel, col, n, s, q, 2, c⟩ := by rw [hW1]; exact XB.new w ⟨op, v, rel, col, n, s, q, 2, c⟩ _
  have z1 : W1.heap.size = w.heap.size + 1 := by rw [hW1]; simp
  obtain ⟨W, hW⟩ : ∃ W, W = W1.alloc (.cells rawZ.cells.toArray 26) := ⟨_, rfl⟩
  have b1 : Below W1.heap.size W1 W := by rw [hW]; (repeat (first | exact ext_refl _ | assumption | (refine ext_alloc ?_ _) | (refine ext_drewN ?_ _) | refine ext_drew ?_ | (refine ext_set (by first | (simp; done) | (simp; omega)) _ ?_) | (refine ext_trans ?_ (by assumption))))
  have E1 := E0.on b1
  have E2 : XB W (w.heap.size + 1) rawZ := by rw [hW, ← z1]; exact XB.new W1 rawZ _
  have b : Below w.heap.size w W := by rw [hW, hW1]; (repeat (first | exact ext_refl _ | assumption | (refine ext_alloc ?_ _) | (refine ext_drewN ?_ _) | refine ext_drew ?_ | (refine ext_set (by first | (simp; done) | (simp; omega)) _ ?_) | (refine ext_trans ?_ (by assumption))))
  have z2 : W.heap.size = w.heap.size + 2 := by rw [hW]; simp [z1]
  have HWW := Lib.hid (show W = (w.alloc (.cells (exCells op v rel col n s q 2 c).toArray 26)).alloc (.cells rawZ.cells.toArray 26) by rw [hW, hW1])
  clear hW hW1 E0 z1 b1
  go_enter Tryd.func23, Tryd.ntmps23
  go_upto_region 1 with fail
  change Code.wp _ _ _ _ ((w.alloc (.cells (exCells op v rel col n s q 2 c).toArray 26)).alloc (.cells rawZ.cells.toArray 26))
  rw [← HWW.out]
  clear HWW
  obtain ⟨g, hg⟩ : ∃ g, g = w.heap.size := ⟨_, rfl⟩
  have HGW := Lib.hid hg
  rw [← hg] at E1 E2 z2 ⊢
  have HB := Lib.hid b
  have HE1 := Lib.hid E1
  have HE2 := Lib.hid E2
  have HZ2 := Lib.hid z2
  clear hg b z2 E2
  have lt := E1.lt
  have c8 := E1.c 8 _ rfl
  clear E1
  simp only at c8
  have HC : Calls Tryd.prog 38 #[.slice q 2 c, .func (.func 23) #[] #[]] W fun e w' => (∃ ql cl, e = .returned (.slice ql 2 cl) ∧ OwnX w' W.heap.size (fun k => W.heap.size ≤ k) (.slice ql 2 cl) [y0.norm, y1.norm]) ∧ Below W.heap.size W w' := by
    have h := changed_any 23 [] Ex.norm [y0, y1] q c W (ExL.ext HB.out _ _ _ HL.out) (show 2 * 104 ≤ 140737488355328 by decide) (fun y hy W' cs hb hM => HI.out y hy W' cs hM (HG.out.on (HB.out.trans (hb.mono HB.out.size))) (HR.out y hy)) Tryd.enterNormal
    rw [show ([y0, y1] : List Ex).length = 2 from rfl] at h
    refine h.mono ?_
    rintro e W' ⟨⟨vl, rfl, hO⟩, hb⟩
    obtain ⟨ql, cl, rfl, -, -, -⟩ := hO.toL
    rw [List.length_map, show ([y0, y1] : List Ex).length = 2 from rfl] at hO ⊢
    exact ⟨⟨ql, cl, rfl, hO⟩, hb⟩
  have HC := Lib.hid HC
  go_upto_region 2 with (go_at_call 38; (refine HC.out.mono ?_; rintro e X ⟨⟨ql, cl, rfl, hO⟩, hbX⟩; have HO := Lib.hid hO; have HBX := Lib.hid hbX; have HE1X := HE1.out.on hbX; have hgX := HE1X.lt; have fgX := HE1X.fz; have e8 := HE1X.c 8 _ rfl; simp only at e8; clear hO hbX HE1X lt c8))
  have hQ := NQ.start rfl HB.out HE1.out HE2.out HGW.out HZ2.out HBX.out HO.out
  simp only at hQ
  obtain ⟨N, hN⟩ : ∃ N, N = X.setCell ⟨g, 8, none⟩ (.slice ql 2 cl) := ⟨_, rfl⟩
  rw [← hN] at hQ ⊢
  have HGN := Lib.hid (HG.out.on hQ.b)
  have HQ := Lib.hid hQ
  clear hN hgX fgX e8 HO HBX HC HE1 HE2 HB HZ2 HI
  obtain ⟨lt, cc, fz⟩ := hQ.x1
  obtain ⟨gl, cl', r0, r1, e2, hbg, hgl, hE, hp0, hp1⟩ := OwnX.two hQ.o
  simp only [Value.slice.injEq, true_and] at e2
  obtain ⟨rfl, rfl⟩ := e2
  have e0 := fun k u hu => OwnF.cellAt RawE.cells_len hE (j := 0) (x := r0) rfl (k := k) (u := u) hu
  have e1 := fun k u hu => OwnF.cellAt RawE.cells_len hE (j := 1) (x := r1) rfl (k := k) (u := u) hu
  obtain ⟨op0, ⟨vk0, vn0, vs0⟩, rel0, col0, nn0, s0, q0, len0, cc0⟩ := r0
  obtain ⟨op1, ⟨vk1, vn1, vs1⟩, rel1, col1, nn1, s1, q1, len1, cc1⟩ := r1
  have f0 := (e0 0 _ rfl).1
  have f1 := (e0 1 _ rfl).1
  have f2 := (e0 2 _ rfl).1
  have f3 := (e0 3 _ rfl).1
  have f4 := (e0 4 _ rfl).1
  have f5 := (e0 5 _ rfl).1
  have f6 := (e0 6 _ rfl).1
  have f7 := (e0 7 _ rfl).1
  have f8 := (e0 8 _ rfl).1
  have h0 := (e1 0 _ rfl).1
  have h1 := (e1 1 _ rfl).1
  have h2 := (e1 2 _ rfl).1
  have h3 := (e1 3 _ rfl).1
  have h4 := (e1 4 _ rfl).1
  have h5 := (e1 5 _ rfl).1
  have h6 := (e1 6 _ rfl).1
  have h7 := (e1 7 _ rfl).1
  have h8 := (e1 8 _ rfl).1
  simp only [Nat.zero_mul, Nat.one_mul, Nat.zero_add, Nat.add_zero, Nat.reduceAdd] at f0 f1 f2 f3 f4 f5 f6 f7 f8 h0 h1 h2 h3 h4 h5 h6 h7 h8
  clear e0 e1
  have HM0 := Lib.hid (ExMP.toM _ _ hp0)
  have HM1 := Lib.hid (ExMP.toM _ _ hp1)
  have HT0 := Lib.hid (fun (x : After N) => calls_after (text_any y0.norm _ x.W (ExM.ext x.below _ _ HM0.out) (HGN.out.on x.below) (by rw [norm_right]; exact HR.out y0 (by simp))))
  have HT1 := Lib.hid (fun (x : After N) => calls_after (text_any y1.norm _ x.W (ExM.ext x.below _ _ HM1.out) (HGN.out.on x.below) (by rw [norm_right]; exact HR.out y1 (by simp))))
  obtain ⟨P0, hP0⟩ : ∃ P, P = bsB y0.norm.print := ⟨_, rfl⟩
  obtain ⟨P1, hP1⟩ : ∃ P, P = bsB y1.norm.print := ⟨_, rfl⟩
  rw [← hP0] at HT0 HLT
  rw [← hP1] at HT1 HLT
  clear hP0 hP1
  have c0 := cc 0 _ rfl
  have c1 := cc 1 _ rfl
  have c2 := cc 2 _ rfl
  have c3 := cc 3 _ rfl
  have c4 := cc 4 _ rfl
  have c5 := cc 5 _ rfl
  have c6 := cc 6 _ rfl
  have c7 := cc 7 _ rfl
  have c8 := cc 8 _ rfl
  simp only at c0 c1 c2 c3 c4 c5 c6 c7 c8
  clear cc
  clear hE hp0 hp1 hQ c1 c2 c3 c4 c5 c6 c7
  go_upto_region 15 with fail
  have rc := fun (x : After N) => (x.cell g 8 lt).trans c8
  have rf0 := fun (x : After N) => (x.cell gl 0 hgl).trans f0
  have rf1 := fun (x : After N) => (x.cell gl 1 hgl).trans f1
  have rf2 := fun (x : After N) => (x.cell gl 2 hgl).trans f2
  have rf3 := fun (x : After N) => (x.cell gl 3 hgl).trans f3
  have rf4 := fun (x : After N) => (x.cell gl 4 hgl).trans f4
  have rf5 := fun (x : After N) => (x.cell gl 5 hgl).trans f5
  have rf6 := fun (x : After N) => (x.cell gl 6 hgl).trans f6
  have rf7 := fun (x : After N) => (x.cell gl 7 hgl).trans f7
  have rf8 := fun (x : After N) => (x.cell gl 8 hgl).trans f8
  have rh0 := fun (x : After N) => (x.cell gl 9 hgl).trans h0
  have rh1 := fun (x : After N) => (x.cell gl 10 hgl).trans h1
  have rh2 := fun (x : After N) => (x.cell gl 11 hgl).trans h2
  have rh3 := fun (x : After N) => (x.cell gl 12 hgl).trans h3
  have rh4 := fun (x : After N) => (x.cell gl 13 hgl).trans h4
  have rh5 := fun (x : After N) => (x.cell gl 14 hgl).trans h5
  have rh6 := fun (x : After N) => (x.cell gl 15 hgl).trans h6
  have rh7 := fun (x : After N) => (x.cell gl 16 hgl).trans h7
  have rh8 := fun (x : After N) => (x.cell gl 17 hgl).trans h8
  clear c0 c8 fz f0 f1 f2 f3 f4 f5 f6 f7 f8 h0 h1 h2 h3 h4 h5 h6 h7 h8
  have is := After.some N
  refine wp_region_after (by kernel_rfl) (by kernel_rfl) ?_
  repeat (quiet_step ((go_at_call 40; first | with_reducible exact HT0.out _ | with_reducible exact HT1.out _)))
  refine wpQuiet_nil ?_
  intro Wq hw
  obtain ⟨⟨Wq, hbq⟩, rfl⟩ := hw
  have HQ1 := Lib.hid (HQ.out.on hbq)
  clear lt rc rf0 rf1 rf2 rf3 rf4 rf5 rf6 rf7 rf8 rh0 rh1 rh2 rh3 rh4 rh5 rh6 rh7 rh8 HT0 HT1 hbq hgl hbg is
  rw [HLT.out]
  obtain ⟨lt, cc, fz⟩ := HQ1.out.x1
  have c0 := cc 0 _ rfl
  have c1 := cc 1 _ rfl
  have c2 := cc 2 _ rfl
  have c3 := cc 3 _ rfl
  have c4 := cc 4 _ rfl
  have c5 := cc 5 _ rfl
  have c6 := cc 6 _ rfl
  have c7 := cc 7 _ rfl
  have c8 := cc 8 _ rfl
  simp only at c0 c1 c2 c3 c4 c5 c6 c7 c8
  clear cc
  obtain ⟨ltR, cR, fR⟩ := HQ1.out.x2
  have d0 := cR 0 _ rfl
  have d1 := cR 1 _ rfl
  have d2 := cR 2 _ rfl
  have d3 := cR 3 _ rfl
  have d4 := cR 4 _ rfl
  have d5 := cR 5 _ rfl
  have d6 := cR 6 _ rfl
  have d7 := cR 7 _ rfl
  have d8 := cR 8 _ rfl
  clear cR
  go_wp2_with fail
  change bodyPost _ _ _ _ _ (setE Wq (g + 1) 0 ⟨op, v, rel, col, n, s, (some ⟨gl, 0, none⟩), 2, cl⟩)
  obtain ⟨hbQ, ⟨-, cQ, -⟩, hP⟩ := HQ1.out.done HV.out rfl rfl
  obtain ⟨Q, hQQ⟩ : ∃ Q, Q = setE Wq (g + 1) 0 ⟨op, v, rel, col, n, s, (some ⟨gl, 0, none⟩), 2, cl⟩ := ⟨_, rfl⟩
  rw [← hQQ] at hbQ cQ hP
  rw [← hQQ]
  have q0 := cQ 0 _ rfl
  have q1 := cQ 1 _ rfl
  have q2 := cQ 2 _ rfl
  have q3 := cQ 3 _ rfl
  have q4 := cQ 4 _ rfl
  have q5 := cQ 5 _ rfl
  have q6 := cQ 6 _ rfl
  have q7 := cQ 7 _ rfl
  have q8 := cQ 8 _ rfl
  clear hQQ cQ
  simp only at q0 q1 q2 q3 q4 q5 q6 q7 q8
  refine bodyPost_ret (v := .agg (exCells op v rel col n s (some ⟨gl, 0, none⟩) 2 cl).toArray) (by simp [results, Tryd.results23, go_sem, q0, q1, q2, q3, q4, q5, q6, q7, q8]) rfl ⟨⟨_, rfl, ?_⟩, hbQ⟩
  rw [HNRM.out]
  exact hP
set_option maxHeartbeats 8000000 in
theorem normC_16s (op : Int) (v : Val) (rel col n : Int) (s : ByteArray) (y0 y1 : Ex) (hop : op = 16) (hlt : Op.bytesLess y1.norm.print y0.norm.print = true) (IH : ∀ y ∈ [y0, y1], NormC y) : NormC (.mk op v rel col n s [y0, y1]) := by
  intro w cs hx hG hr
  have HR := Lib.hid (right_op hr).2
  have HI := Lib.hid IH
  have HG := Lib.hid hG
  rw [ExM.iff] at hx
  obtain ⟨hv, q, c, rfl, -, hl⟩ := hx
  have HV := Lib.hid hv
  have HL := Lib.hid hl
  clear hv hl hr IH hG
  have HNRM := Lib.hid (show (Ex.mk op v rel col n s [y0, y1]).norm = .mk op v rel col n s [y1.norm, y0.norm] by
    rw [Ex.norm, fixE, hop, normL, normL, normL, if_neg (by decide), if_neg (by decide)]
    show (if (true && Op.bytesLess y1.norm.print y0.norm.print) = true then _ else _) = _
    rw [hlt]; rfl)
  have HLT := Lib.hid (show Op.bytesLess (bsB y1.norm.print).toList (bsB y0.norm.print).toList = true by rw [ByteArray.toList_eq, ByteArray.toList_eq]; exact hlt)
  have b13 : (op == 13) = false := by rw [hop]; rfl
  have b14 : (op == 14) = false := by rw [hop]; rfl
  have b4 : (op == 4) = false := by rw [hop]; rfl
  have b6 : (op == 6) = false := by rw [hop]; rfl
  have b9 : (op == 9) = false := by rw [hop]; rfl
  have b10 : (op == 10) = false := by rw [hop]; rfl
  have b15 : (op == 15) = false := by rw [hop]; rfl
  have b16 : (op == 16) = true := by rw [hop]; rfl
  clear hop hlt
  obtain ⟨W1, hW1⟩ : ∃ W, W = w.alloc (.cells (exCells op v rel col n s q 2 c).toArray 26) := ⟨_, rfl⟩
  have E0 : XB W1 w.heap.size ⟨op, v, rel, col, n, s, q, 2, c⟩ := by rw [hW1]; exact XB.new w ⟨op, v, rel, col, n, s, q, 2, c⟩ _
  have z1 : W1.heap.size = w.heap.size + 1 := by rw [hW1]; simp
  obtain ⟨W, hW⟩ : ∃ W, W = W1.alloc (.cells rawZ.cells.toArray 26) := ⟨_, rfl⟩
  have b1 : Below W1.heap.size W1 W := by rw [hW]; (repeat (first | exact ext_refl _ | assumption | (refine ext_alloc ?_ _) | (refine ext_drewN ?_ _) | refine ext_drew ?_ | (refine ext_set (by first | (simp; done) | (simp; omega)) _ ?_) | (refine ext_trans ?_ (by assumption))))
  have E1 := E0.on b1
  have E2 : XB W (w.heap.size + 1) rawZ := by rw [hW, ← z1]; exact XB.new W1 rawZ _
  have b : Below w.heap.size w W := by rw [hW, hW1]; (repeat (first | exact ext_refl _ | assumption | (refine ext_alloc ?_ _) | (refine ext_drewN ?_ _) | refine ext_drew ?_ | (refine ext_set (by first | (simp; done) | (simp; omega)) _ ?_) | (refine ext_trans ?_ (by assumption))))
  have z2 : W.heap.size = w.heap.size + 2 := by rw [hW]; simp [z1]
  have HWW := Lib.hid (show W = (w.alloc (.cells (exCells op v rel col n s q 2 c).toArray 26)).alloc (.cells rawZ.cells.toArray 26) by rw [hW, hW1])
  clear hW hW1 E0 z1 b1
  go_enter Tryd.func23, Tryd.ntmps23
  go_upto_region 1 with fail
  change Code.wp _ _ _ _ ((w.alloc (.cells (exCells op v rel col n s q 2 c).toArray 26)).alloc (.cells rawZ.cells.toArray 26))
  rw [← HWW.out]
  clear HWW
  obtain ⟨g, hg⟩ : ∃ g, g = w.heap.size := ⟨_, rfl⟩
  have HGW := Lib.hid hg
  rw [← hg] at E1 E2 z2 ⊢
  have HB := Lib.hid b
  have HE1 := Lib.hid E1
  have HE2 := Lib.hid E2
  have HZ2 := Lib.hid z2
  clear hg b z2 E2
  have lt := E1.lt
  have c8 := E1.c 8 _ rfl
  clear E1
  simp only at c8
  have HC : Calls Tryd.prog 38 #[.slice q 2 c, .func (.func 23) #[] #[]] W fun e w' => (∃ ql cl, e = .returned (.slice ql 2 cl) ∧ OwnX w' W.heap.size (fun k => W.heap.size ≤ k) (.slice ql 2 cl) [y0.norm, y1.norm]) ∧ Below W.heap.size W w' := by
    have h := changed_any 23 [] Ex.norm [y0, y1] q c W (ExL.ext HB.out _ _ _ HL.out) (show 2 * 104 ≤ 140737488355328 by decide) (fun y hy W' cs hb hM => HI.out y hy W' cs hM (HG.out.on (HB.out.trans (hb.mono HB.out.size))) (HR.out y hy)) Tryd.enterNormal
    rw [show ([y0, y1] : List Ex).length = 2 from rfl] at h
    refine h.mono ?_
    rintro e W' ⟨⟨vl, rfl, hO⟩, hb⟩
    obtain ⟨ql, cl, rfl, -, -, -⟩ := hO.toL
    rw [List.length_map, show ([y0, y1] : List Ex).length = 2 from rfl] at hO ⊢
    exact ⟨⟨ql, cl, rfl, hO⟩, hb⟩
  have HC := Lib.hid HC
  go_upto_region 2 with (go_at_call 38; (refine HC.out.mono ?_; rintro e X ⟨⟨ql, cl, rfl, hO⟩, hbX⟩; have HO := Lib.hid hO; have HBX := Lib.hid hbX; have HE1X := HE1.out.on hbX; have hgX := HE1X.lt; have fgX := HE1X.fz; have e8 := HE1X.c 8 _ rfl; simp only at e8; clear hO hbX HE1X lt c8))
  have hQ := NQ.start rfl HB.out HE1.out HE2.out HGW.out HZ2.out HBX.out HO.out
  simp only at hQ
  obtain ⟨N, hN⟩ : ∃ N, N = X.setCell ⟨g, 8, none⟩ (.slice ql 2 cl) := ⟨_, rfl⟩
  rw [← hN] at hQ ⊢
  have HGN := Lib.hid (HG.out.on hQ.b)
  have HQ := Lib.hid hQ
  clear hN hgX fgX e8 HO HBX HC HE1 HE2 HB HZ2 HI
  obtain ⟨lt, cc, fz⟩ := hQ.x1
  obtain ⟨gl, cl', r0, r1, e2, hbg, hgl, hE, hp0, hp1⟩ := OwnX.two hQ.o
  simp only [Value.slice.injEq, true_and] at e2
  obtain ⟨rfl, rfl⟩ := e2
  have e0 := fun k u hu => OwnF.cellAt RawE.cells_len hE (j := 0) (x := r0) rfl (k := k) (u := u) hu
  have e1 := fun k u hu => OwnF.cellAt RawE.cells_len hE (j := 1) (x := r1) rfl (k := k) (u := u) hu
  obtain ⟨op0, ⟨vk0, vn0, vs0⟩, rel0, col0, nn0, s0, q0, len0, cc0⟩ := r0
  obtain ⟨op1, ⟨vk1, vn1, vs1⟩, rel1, col1, nn1, s1, q1, len1, cc1⟩ := r1
  have f0 := (e0 0 _ rfl).1
  have f1 := (e0 1 _ rfl).1
  have f2 := (e0 2 _ rfl).1
  have f3 := (e0 3 _ rfl).1
  have f4 := (e0 4 _ rfl).1
  have f5 := (e0 5 _ rfl).1
  have f6 := (e0 6 _ rfl).1
  have f7 := (e0 7 _ rfl).1
  have f8 := (e0 8 _ rfl).1
  have h0 := (e1 0 _ rfl).1
  have h1 := (e1 1 _ rfl).1
  have h2 := (e1 2 _ rfl).1
  have h3 := (e1 3 _ rfl).1
  have h4 := (e1 4 _ rfl).1
  have h5 := (e1 5 _ rfl).1
  have h6 := (e1 6 _ rfl).1
  have h7 := (e1 7 _ rfl).1
  have h8 := (e1 8 _ rfl).1
  simp only [Nat.zero_mul, Nat.one_mul, Nat.zero_add, Nat.add_zero, Nat.reduceAdd] at f0 f1 f2 f3 f4 f5 f6 f7 f8 h0 h1 h2 h3 h4 h5 h6 h7 h8
  clear e0 e1
  have HM0 := Lib.hid (ExMP.toM _ _ hp0)
  have HM1 := Lib.hid (ExMP.toM _ _ hp1)
  have HT0 := Lib.hid (fun (x : After N) => calls_after (text_any y0.norm _ x.W (ExM.ext x.below _ _ HM0.out) (HGN.out.on x.below) (by rw [norm_right]; exact HR.out y0 (by simp))))
  have HT1 := Lib.hid (fun (x : After N) => calls_after (text_any y1.norm _ x.W (ExM.ext x.below _ _ HM1.out) (HGN.out.on x.below) (by rw [norm_right]; exact HR.out y1 (by simp))))
  obtain ⟨P0, hP0⟩ : ∃ P, P = bsB y0.norm.print := ⟨_, rfl⟩
  obtain ⟨P1, hP1⟩ : ∃ P, P = bsB y1.norm.print := ⟨_, rfl⟩
  rw [← hP0] at HT0 HLT
  rw [← hP1] at HT1 HLT
  clear hP0 hP1
  have c0 := cc 0 _ rfl
  have c1 := cc 1 _ rfl
  have c2 := cc 2 _ rfl
  have c3 := cc 3 _ rfl
  have c4 := cc 4 _ rfl
  have c5 := cc 5 _ rfl
  have c6 := cc 6 _ rfl
  have c7 := cc 7 _ rfl
  have c8 := cc 8 _ rfl
  simp only at c0 c1 c2 c3 c4 c5 c6 c7 c8
  clear cc
  clear hE hp0 hp1 hQ c1 c2 c3 c4 c5 c6 c7
  go_upto_region 15 with fail
  have rc := fun (x : After N) => (x.cell g 8 lt).trans c8
  have rf0 := fun (x : After N) => (x.cell gl 0 hgl).trans f0
  have rf1 := fun (x : After N) => (x.cell gl 1 hgl).trans f1
  have rf2 := fun (x : After N) => (x.cell gl 2 hgl).trans f2
  have rf3 := fun (x : After N) => (x.cell gl 3 hgl).trans f3
  have rf4 := fun (x : After N) => (x.cell gl 4 hgl).trans f4
  have rf5 := fun (x : After N) => (x.cell gl 5 hgl).trans f5
  have rf6 := fun (x : After N) => (x.cell gl 6 hgl).trans f6
  have rf7 := fun (x : After N) => (x.cell gl 7 hgl).trans f7
  have rf8 := fun (x : After N) => (x.cell gl 8 hgl).trans f8
  have rh0 := fun (x : After N) => (x.cell gl 9 hgl).trans h0
  have rh1 := fun (x : After N) => (x.cell gl 10 hgl).trans h1
  have rh2 := fun (x : After N) => (x.cell gl 11 hgl).trans h2
  have rh3 := fun (x : After N) => (x.cell gl 12 hgl).trans h3
  have rh4 := fun (x : After N) => (x.cell gl 13 hgl).trans h4
  have rh5 := fun (x : After N) => (x.cell gl 14 hgl).trans h5
  have rh6 := fun (x : After N) => (x.cell gl 15 hgl).trans h6
  have rh7 := fun (x : After N) => (x.cell gl 16 hgl).trans h7
  have rh8 := fun (x : After N) => (x.cell gl 17 hgl).trans h8
  clear c0 c8 fz f0 f1 f2 f3 f4 f5 f6 f7 f8 h0 h1 h2 h3 h4 h5 h6 h7 h8
  have is := After.some N
  refine wp_region_after (by kernel_rfl) (by kernel_rfl) ?_
  repeat (quiet_step ((go_at_call 40; first | with_reducible exact HT0.out _ | with_reducible exact HT1.out _)))
  refine wpQuiet_nil ?_
  intro Wq hw
  obtain ⟨⟨Wq, hbq⟩, rfl⟩ := hw
  have HQ1 := Lib.hid (HQ.out.on hbq)
  clear lt rc rf0 rf1 rf2 rf3 rf4 rf5 rf6 rf7 rf8 rh0 rh1 rh2 rh3 rh4 rh5 rh6 rh7 rh8 HT0 HT1 hbq hgl hbg is
  rw [HLT.out]
  obtain ⟨lt, cc, fz⟩ := HQ1.out.x1
  have c0 := cc 0 _ rfl
  have c1 := cc 1 _ rfl
  have c2 := cc 2 _ rfl
  have c3 := cc 3 _ rfl
  have c4 := cc 4 _ rfl
  have c5 := cc 5 _ rfl
  have c6 := cc 6 _ rfl
  have c7 := cc 7 _ rfl
  have c8 := cc 8 _ rfl
  simp only at c0 c1 c2 c3 c4 c5 c6 c7 c8
  clear cc
  obtain ⟨gl2, cl2, s0, s1, e3, hbg2, -, hE2, hs0, hs1⟩ := OwnX.two HQ1.out.o
  simp only [Value.slice.injEq, Option.some.injEq, Addr.mk.injEq, and_true, true_and] at e3
  obtain ⟨rfl, rfl⟩ := e3
  have HX := Lib.hid (exchange_any (g + 2) gl cl s0 s1 Wq hE2)
  have HH := Lib.hid (And.intro hbg2 (And.intro hs0 hs1))
  clear hE2 hs0 hs1 hbg2
  go_upto_region 17 with (go_at_call 39; (refine HX.out.mono ?_; rintro e N2 ⟨rfl, hEE, hoo⟩; have HQ2 := Lib.hid (HQ1.out.swap HH.out.1 HH.out.2.1 HH.out.2.2 hEE hoo); clear hEE hoo))
  clear c0 c1 c2 c3 c4 c5 c6 c7 c8 fz lt
  obtain ⟨lt, cc, fz⟩ := HQ2.out.x1
  have c0 := cc 0 _ rfl
  have c1 := cc 1 _ rfl
  have c2 := cc 2 _ rfl
  have c3 := cc 3 _ rfl
  have c4 := cc 4 _ rfl
  have c5 := cc 5 _ rfl
  have c6 := cc 6 _ rfl
  have c7 := cc 7 _ rfl
  have c8 := cc 8 _ rfl
  simp only at c0 c1 c2 c3 c4 c5 c6 c7 c8
  clear cc
  obtain ⟨ltR, cR, fR⟩ := HQ2.out.x2
  have d0 := cR 0 _ rfl
  have d1 := cR 1 _ rfl
  have d2 := cR 2 _ rfl
  have d3 := cR 3 _ rfl
  have d4 := cR 4 _ rfl
  have d5 := cR 5 _ rfl
  have d6 := cR 6 _ rfl
  have d7 := cR 7 _ rfl
  have d8 := cR 8 _ rfl
  clear cR
  go_wp2_with fail
  change bodyPost _ _ _ _ _ (setE N2 (g + 1) 0 ⟨op, v, rel, col, n, s, (some ⟨gl, 0, none⟩), 2, cl⟩)
  obtain ⟨hbQ, ⟨-, cQ, -⟩, hP⟩ := HQ2.out.done HV.out rfl rfl
  obtain ⟨Q, hQQ⟩ : ∃ Q, Q = setE N2 (g + 1) 0 ⟨op, v, rel, col, n, s, (some ⟨gl, 0, none⟩), 2, cl⟩ := ⟨_, rfl⟩
  rw [← hQQ] at hbQ cQ hP
  rw [← hQQ]
  have q0 := cQ 0 _ rfl
  have q1 := cQ 1 _ rfl
  have q2 := cQ 2 _ rfl
  have q3 := cQ 3 _ rfl
  have q4 := cQ 4 _ rfl
  have q5 := cQ 5 _ rfl
  have q6 := cQ 6 _ rfl
  have q7 := cQ 7 _ rfl
  have q8 := cQ 8 _ rfl
  clear hQQ cQ
  simp only at q0 q1 q2 q3 q4 q5 q6 q7 q8
  refine bodyPost_ret (v := .agg (exCells op v rel col n s (some ⟨gl, 0, none⟩) 2 cl).toArray) (by simp [results, Tryd.results23, go_sem, q0, q1, q2, q3, q4, q5, q6, q7, q8]) rfl ⟨⟨_, rfl, ?_⟩, hbQ⟩
  rw [HNRM.out]
  exact hP
theorem normC_any : ∀ (k : Nat) (x : Ex), x.deep ≤ k → x.okAll = true → NormC x
  | 0, x, h, _ => absurd (deep_pos x) (by omega)
  | k + 1, .mk op v rel col n s l, h, ho => by
    rw [Ex.okAll, Bool.and_eq_true] at ho
    have IH : ∀ y ∈ l, NormC y := fun y hy => normC_any k y (by rw [Ex.deep] at h; have := deepL_of_mem hy; omega) (by obtain ⟨i, hi, he⟩ := List.getElem_of_mem hy; exact okL_all ho.2 (i := i) (by rw [List.getElem?_eq_getElem hi, he]))
    by_cases hop : commutes op = true ∨ op = 13 ∨ op = 14
    · have h2 := head_two8' ho.1 hop
      match l, h2 with
      | [y0, y1], _ =>
        rcases hop with hc | hop | hop
        · have hc' : op = 4 ∨ op = 6 ∨ op = 9 ∨ op = 10 ∨ op = 15 ∨ op = 16 := by simpa [commutes, or_assoc] using hc
          cases hb : Op.bytesLess y1.norm.print y0.norm.print with
          | true =>
            rcases hc' with e | e | e | e | e | e
            · exact normC_4s op v rel col n s y0 y1 e hb IH
            · exact normC_6s op v rel col n s y0 y1 e hb IH
            · exact normC_9s op v rel col n s y0 y1 e hb IH
            · exact normC_10s op v rel col n s y0 y1 e hb IH
            · exact normC_15s op v rel col n s y0 y1 e hb IH
            · exact normC_16s op v rel col n s y0 y1 e hb IH
          | false =>
            rcases hc' with e | e | e | e | e | e
            · exact normC_4 op v rel col n s y0 y1 e hb IH
            · exact normC_6 op v rel col n s y0 y1 e hb IH
            · exact normC_9 op v rel col n s y0 y1 e hb IH
            · exact normC_10 op v rel col n s y0 y1 e hb IH
            · exact normC_15 op v rel col n s y0 y1 e hb IH
            · exact normC_16 op v rel col n s y0 y1 e hb IH
        · exact normC_gt op v rel col n s y0 y1 hop IH
        · exact normC_ge op v rel col n s y0 y1 hop IH
    · exact normC_other op v rel col n s l (head_two ho.1) hop IH
end Go.Proofs.YtklgoajgchfmeaaDoor
