/- A part of the proof. -/
import Derived.Test.YtklgoajgchfmeaaDoorKf
import Derived.RangeFuncNested
import Derived.RangeFuncBound
import Derived.RangeFuncCalls
import Derived.RangeFuncLeaves
import Derived.Shelf.Abstract
import Derived.Shelf.RegionOpen
import Derived.WalkKit
import Derived.OwnWalkIn
import Derived.TacticsInMore
import Derived.LoopNIn
import Derived.LoopIn
import Derived.Test.YtklgoajgchfmeaaDoorKg
import Derived.Test.YtklgoajgchfmeaaDoorExD
set_option linter.unusedVariables false
set_option linter.unusedSimpArgs false
namespace Go.Proofs.YtklgoajgchfmeaaDoor
open Go.RowKit Go.Shelf
set_option maxRecDepth 100000
structure KC (S : Nat → Prop) (W W' : World) : Prop where
  size : W.heap.size ≤ W'.heap.size
  same : ∀ (k : Nat) (o : Obj), ¬ S k → W.heap[k]? = some o → o.isCells = true → W'.heap[k]? = some o
theorem KC.refl (S : Nat → Prop) (W : World) : KC S W W := ⟨Nat.le_refl _, fun _ _ _ h _ => h⟩
theorem KC.trans {S : Nat → Prop} {A B C : World} (h : KC S A B) (k : KC S B C) : KC S A C := ⟨Nat.le_trans h.size k.size, fun i o hs hi ho => k.same i o hs (h.same i o hs hi ho) ho⟩
theorem KC.alloc (S : Nat → Prop) (W : World) (o : Obj) : KC S W (W.alloc o) := ⟨by simp, fun k o' _ h _ => (Below.heap_alloc _ _ _ (Array.getElem?_eq_some_iff.1 h).1).trans h⟩
theorem KC.put {S : Nat → Prop} (W : World) (l : Nat) (o o' : Obj) (h : W.heap[l]? = some o) (hc : o.isCells = false) : KC S W (W.putObj l o') := by
  have hg := grownBy_putObj' W l o'
  refine ⟨hg.size, fun k u _ hk hu => (hg.block k (Array.getElem?_eq_some_iff.1 hk).1 (fun e => ?_)).trans hk⟩
  obtain rfl : k = l := by cases e; rfl
  rw [h] at hk
  cases hk
  rw [hc] at hu
  cases hu
theorem KC.cell {S : Nat → Prop} {W W' : World} (h : KC S W W') {b o : Nat} {v : Value} (hb : ¬ S b) (hc : W.cell? ⟨b, o, none⟩ = some v) : W'.cell? ⟨b, o, none⟩ = some v := by
  obtain ⟨u, hu, hcu⟩ := cells_of_cell hc
  have := h.same b u hb hu hcu
  unfold World.cell? at hc ⊢
  rw [this]
  rw [show W.heap[b]? = some u from hu] at hc
  exact hc
theorem KC.lt {S : Nat → Prop} {W W' : World} (h : KC S W W') {b : Nat} (hb : b < W.heap.size) : b < W'.heap.size := Nat.lt_of_lt_of_le hb h.size
theorem KC.of_below {S : Nat → Prop} {W W' : World} (h : Below W.heap.size W W') : KC S W W' := ⟨h.size, fun k _ _ hk _ => (h.block k (Array.getElem?_eq_some_iff.1 hk).1).trans hk⟩
theorem KC.of_out {A : Nat} {W W' : World} (h : Out (fun k => k = A) W W') : KC (fun k => k = A) W W' := ⟨h.size, fun k _ hs hk _ => (h.block k (Array.getElem?_eq_some_iff.1 hk).1 hs).trans hk⟩
def CF (w0 W : World) : Prop := ∀ (g o : Nat) (u : Value), g < w0.heap.size → w0.cell? ⟨g, o, none⟩ = some u → W.cell? ⟨g, o, none⟩ = some u
theorem CF.of {w0 W : World} (h : Below w0.heap.size w0 W) : CF w0 W := fun _ _ _ hg hu => (h.cell (p := ⟨_, _, none⟩) hg).trans hu
theorem CF.kc {w0 W W' : World} {S : Nat → Prop} (h : CF w0 W) (k : KC S W W') (hS : ∀ g, g < w0.heap.size → ¬ S g) : CF w0 W' := fun g _ _ hg hu => k.cell (hS g hg) (h _ _ _ hg hu)
theorem CF.alloc {w0 W : World} (h : CF w0 W) (o : Obj) : CF w0 (W.alloc o) := h.kc (KC.alloc (fun _ => False) W o) (fun _ _ h => h)
theorem EB.kc {W W' : World} {S : Nat → Prop} {g : Nat} {op : Int} {v : Val} {rel col n : Int} {s : ByteArray} {q : Option Addr} {len c : Nat} (h : EB W g op v rel col n s q len c) (k : KC S W W') (hS : ¬ S g) : EB W' g op v rel col n s q len c :=
  ⟨k.lt h.lt, k.cell hS h.c0, k.cell hS h.c1, k.cell hS h.c2, k.cell hS h.c3, k.cell hS h.c4, k.cell hS h.c5, k.cell hS h.c6, k.cell hS h.c7, k.cell hS h.c8⟩
structure Hd where
  op : Int
  v : Val
  rel : Int
  col : Int
  n : Int
  s : ByteArray
  len : Nat
structure Nd where
  hd : Hd
  q : Option Addr
  c : Nat
  ok : headOk hd.op hd.v hd.rel hd.col hd.n hd.s hd.len = true
def Nd.cells (x : Nd) : Array Value := (exCells x.hd.op x.hd.v x.hd.rel x.hd.col x.hd.n x.hd.s x.q x.hd.len x.c).toArray
def Nd.encs (x : Nd) : Array Value := #[.agg x.cells]
mutual
def Ex.nodes : Ex → List Hd
  | .mk op v rel col n s l => ⟨op, v, rel, col, n, s, l.length⟩ :: nodesL l
def nodesL : List Ex → List Hd
  | [] => []
  | x :: r => x.nodes ++ nodesL r
end
mutual
theorem nodes_len : ∀ x : Ex, x.nodes.length = x.count
  | .mk op v rel col n s l => by rw [Ex.nodes, Ex.count, List.length_cons, nodesL_len l]
theorem nodesL_len : ∀ l : List Ex, (nodesL l).length = countL l
  | [] => by rw [nodesL, countL]; rfl
  | x :: r => by rw [nodesL, countL, List.length_append, nodes_len x, nodesL_len r]
end
structure PC (W : World) (l Y V : Nat) : Prop where
  cY : W.cell? ⟨Y, 0, none⟩ = some (.func (.yield l) #[] #[])
  cV : W.cell? ⟨V, 0, none⟩ = some (.func (.func 56) #[] #[.pointer (some ⟨Y, 0, none⟩), .pointer (some ⟨V, 0, none⟩)])
  lY : Y < W.heap.size
  lV : V < W.heap.size
theorem PC.kc {W W' : World} {S : Nat → Prop} {l Y V : Nat} (h : PC W l Y V) (k : KC S W W') (hY : ¬ S Y) (hV : ¬ S V) : PC W' l Y V := ⟨k.cell hY h.cY, k.cell hV h.cV, k.lt h.lY, k.lt h.lV⟩
def VisitC (S : Nat → Prop) (l N : Nat) (J Jx : List Nd → World → Prop) (x : Ex) : Prop := ∀ (n : Nat) (pre : List Nd) (w0 W : World) (cs : List Value) (Y V : Nat), ExM w0 x cs → CF w0 W → w0.heap.size ≤ W.heap.size → (∀ g, g < w0.heap.size → ¬ S g) → PC W l Y V → ¬ S Y → ¬ S V → (∀ k, W.heap.size ≤ k → ¬ S k) → J pre W → pre.length + x.count ≤ N →
  CallsIn Fence.wide n Tryd.prog 56 #[.agg cs.toArray, .pointer (some ⟨Y, 0, none⟩), .pointer (some ⟨V, 0, none⟩)] W fun e W' =>
    (e = .returned (.bool true) ∧ ∃ L : List Nd, L.map Nd.hd = x.nodes ∧ J (pre ++ L) W' ∧ KC S W W') ∨ (e = .returned (.bool false) ∧ ∃ L : List Nd, L.map Nd.hd <+: x.nodes ∧ Jx (pre ++ L) W')
theorem nodepth (n : Nat) : Fence.wide.depth.isSome = true → 1 ≤ n := fun h => by cases h
attribute [local go_sem] Oper.semAt_some
set_option maxHeartbeats 8000000 in
theorem visit_mk (S : Nat → Prop) (l N : Nat) (J Jx : List Nd → World → Prop) (hJ : ∀ s X o, J s X → J s (X.alloc o))
    (hY : ∀ m pre (x : Nd) W, J pre W → pre.length < N → YieldAt Fence.wide m Tryd.prog l x.encs W fun e W' => (e = .returned (.bool true) ∧ J (pre ++ [x]) W' ∧ KC S W W') ∨ (e = .returned (.bool false) ∧ Jx (pre ++ [x]) W'))
    (op : Int) (v : Val) (rel col k : Int) (s : ByteArray) (t : List Ex) (hh : headOk op v rel col k s t.length = true) (IH : ∀ y ∈ t, VisitC S l N J Jx y) : VisitC S l N J Jx (.mk op v rel col k s t) := by
  intro n pre w0 W cs Y V hx hcf hws hS0 hP hSY hSV hSk hJW hN
  rw [ExM.iff] at hx
  obtain ⟨-, q, c, rfl, -, hl⟩ := hx
  have HL := Lib.hid hl
  have HI := Lib.hid IH
  have HS0 := Lib.hid hS0
  have HSk := Lib.hid hSk
  have HSY := Lib.hid hSY
  have HSV := Lib.hid hSV
  have HYc := Lib.hid hY
  have HJ := Lib.hid hJ
  have E0 := EB.new W op v rel col k s q t.length c 26
  have K0 := KC.alloc S W (.cells (exCells op v rel col k s q t.length c).toArray 26)
  have J0 := hJ pre W (.cells (exCells op v rel col k s q t.length c).toArray 26) hJW
  have P0 := hP.kc K0 hSY hSV
  have F0 := hcf.alloc (.cells (exCells op v rel col k s q t.length c).toArray 26)
  obtain ⟨nd, hnd⟩ : ∃ nd : Nd, nd = ⟨⟨op, v, rel, col, k, s, t.length⟩, q, c, hh⟩ := ⟨_, rfl⟩
  obtain ⟨fn, tmps, assign, body, hy, hR⟩ := hY (n - 1) pre nd _ J0 (by rw [Ex.count] at hN; omega)
  have hSg : ¬ S W.heap.size := hSk _ (Nat.le_refl _)
  have HT := Lib.hid (head_two hh)
  have HN := Lib.hid hN
  have hE : nd.encs = #[.agg (exCells op v rel col k s q t.length c).toArray] := by rw [hnd]; rfl
  rw [hE] at hy
  have HE0 := Lib.hid E0
  have HK0 := Lib.hid K0
  have HP0 := Lib.hid P0
  have HF0 := Lib.hid F0
  have HWS := Lib.hid hws
  have HSg := Lib.hid hSg
  have cY := hP.cY
  have lY := hP.lY
  have cV := hP.cV
  have lV := hP.lV
  have HND := Lib.hid hnd
  clear hE hl IH hS0 hSk hSY hSV hY hJ E0 K0 J0 P0 F0 hSg hN hJW hP hcf hws hnd
  refine callsIn_of_wp Tryd.func56 rfl trivial ?_ rfl
  simp only [Tryd.ntmps56, List.size_toArray, List.length_cons, List.length_nil, Nat.reduceAdd, Nat.reduceSub, Array.replicate_succ, Array.replicate_zero, List.push_toArray, List.append_toArray, List.nil_append, List.cons_append]
  gi_wp2_with fail
  refine ⟨nodepth _, hR.mono ?_⟩
  clear hy hR cY lY cV lV
  rintro e U (⟨rfl, hJU, hk⟩ | ⟨rfl, hx2⟩)
  · have HKU := Lib.hid (HK0.out.trans hk)
    have HPU := Lib.hid (HP0.out.kc hk HSY.out HSV.out)
    have HFU := Lib.hid (HF0.out.kc hk HS0.out)
    have EU := HE0.out.kc hk HSg.out
    have HEU := Lib.hid EU
    have HJU := Lib.hid hJU
    clear hk hJU HK0 HP0 HF0 HE0
    obtain ⟨lt, c0, c1, c2, c3, c4, c5, c6, c7, c8⟩ := EU
    have cV := HPU.out.cV
    have lV := HPU.out.lV
    obtain ⟨g, hg⟩ : ∃ g, g = W.heap.size := ⟨_, rfl⟩
    rw [← hg] at HSg HEU lt c0 c1 c2 c3 c4 c5 c6 c7 c8 ⊢
    have HG := Lib.hid hg
    clear hg
    rcases t with _ | ⟨y0, _ | ⟨y1, _ | ⟨y2, r⟩⟩⟩
    · simp only [List.length_nil] at c8 HEU HND ⊢
      have HQ := Lib.hid (show List.map Nd.hd [nd] = (Ex.mk op v rel col k s []).nodes by rw [HND.out, Ex.nodes, nodesL]; rfl)
      gi_wp2_with fail
      refine wpIn_loop_rounds 1 ?_
      rw [roundsIn_succ]
      gi_wp2_with fail
      refine bodyPost_ret (v := .bool true) (by simp [results, Tryd.results56, go_sem]) rfl (.inl ⟨rfl, [nd], HQ.out, HJU.out, HKU.out⟩)
    · skip
      simp only [List.length_cons, List.length_nil, Nat.zero_add] at c8 HEU HND ⊢
      have hl_ := ExL.at_ (j := 0) (x := y0) HL.out rfl
      obtain ⟨g0, off0, cs0, hq0, hg0, hx0, hcell⟩ := hl_
      subst hq0
      have HX0 := Lib.hid hx0
      obtain ⟨op1, v1, rel1, col1, n1, s1, l1⟩ := y0
      rw [ExM.iff] at hx0
      obtain ⟨-, qq0, cc0, rfl, -, -⟩ := hx0
      have f0 := HFU.out _ _ _ hg0 (hcell 0 _ rfl)
      have f1 := HFU.out _ _ _ hg0 (hcell 1 _ rfl)
      have f2 := HFU.out _ _ _ hg0 (hcell 2 _ rfl)
      have f3 := HFU.out _ _ _ hg0 (hcell 3 _ rfl)
      have f4 := HFU.out _ _ _ hg0 (hcell 4 _ rfl)
      have f5 := HFU.out _ _ _ hg0 (hcell 5 _ rfl)
      have f6 := HFU.out _ _ _ hg0 (hcell 6 _ rfl)
      have f7 := HFU.out _ _ _ hg0 (hcell 7 _ rfl)
      have f8 := HFU.out _ _ _ hg0 (hcell 8 _ rfl)
      simp only [Nat.zero_mul, Nat.add_zero] at f0 f1 f2 f3 f4 f5 f6 f7 f8
      clear hcell
      gi_wp2_with fail
      refine wpIn_loop_rounds 2 ?_
      rw [roundsIn_succ]
      gi_wp2_with fail
      refine ⟨trivial, nodepth _, (HI.out (Ex.mk op1 v1 rel1 col1 n1 s1 l1) (by simp) _ (pre ++ [nd]) w0 _ _ Y V HX0.out (HFU.out.alloc _) (by have := HWS.out; have := HKU.out.size; simp; omega) HS0.out (HPU.out.kc (KC.alloc S _ _) HSY.out HSV.out) HSY.out HSV.out (fun k hk => HSk.out k (by have := HKU.out.size; simp at hk; omega)) (HJ.out _ _ _ HJU.out) (by have := HN.out; simp only [Ex.count, countL, List.length_append, List.length_cons, List.length_nil] at this ⊢; omega)).mono ?_⟩
      clear f0 f1 f2 f3 f4 f5 f6 f7 f8 c0 c1 c2 c3 c4 c5 c6 c7 c8 lt cV lV
      rintro e Z (⟨rfl, L, hm, hJZ, hk⟩ | ⟨rfl, L, hm, hxZ⟩)
      · skip
        have HKZ := Lib.hid (HKU.out.trans ((KC.alloc S _ _).trans hk))
        have HPZ := Lib.hid ((HPU.out.kc (KC.alloc S _ _) HSY.out HSV.out).kc hk HSY.out HSV.out)
        have HFZ := Lib.hid ((HFU.out.alloc _).kc hk HS0.out)
        have EU := (HEU.out.kc (KC.alloc S _ _) HSg.out).kc hk HSg.out
        have HEZ := Lib.hid EU
        have HJZ := Lib.hid hJZ
        have HM := Lib.hid hm
        clear hk hJZ hm
        obtain ⟨lt, c0, c1, c2, c3, c4, c5, c6, c7, c8⟩ := EU
        have cV := HPZ.out.cV
        have lV := HPZ.out.lV
        have HQ := Lib.hid (show List.map Nd.hd ([nd] ++ L) = (Ex.mk op v rel col k s [(Ex.mk op1 v1 rel1 col1 n1 s1 l1)]).nodes by rw [HND.out, List.map_append, HM.out]; simp only [Ex.nodes, nodesL, List.append_nil]; rfl)
        gi_wp2_with fail
        rw [roundsIn_succ]
        gi_wp2_with fail
        refine bodyPost_ret (v := .bool true) (by simp [results, Tryd.results56, go_sem]) rfl (.inl ⟨rfl, [nd] ++ L, HQ.out, by rw [← List.append_assoc]; exact HJZ.out, HKZ.out⟩)
      · have HQ := Lib.hid (show List.map Nd.hd ([nd] ++ L) <+: (Ex.mk op v rel col k s [(Ex.mk op1 v1 rel1 col1 n1 s1 l1)]).nodes by
          obtain ⟨r, hr⟩ := hm
          refine ⟨r, ?_⟩
          rw [HND.out, List.map_append, List.append_assoc, hr]; simp only [Ex.nodes, nodesL, List.append_nil]; rfl)
        have HX := Lib.hid hxZ
        clear hxZ hm
        gi_wp2_with fail
        refine bodyPost_ret (v := .bool false) (by simp [results, Tryd.results56, go_sem]) rfl (.inr ⟨rfl, [nd] ++ L, HQ.out, by rw [← List.append_assoc]; exact HX.out⟩)
    · skip
      simp only [List.length_cons, List.length_nil, Nat.zero_add, Nat.reduceAdd] at c8 HEU HND ⊢
      have hl_ := ExL.at_ (j := 0) (x := y0) HL.out rfl
      obtain ⟨g0, off0, cs0, hq0, hg0, hx0, hcell⟩ := hl_
      subst hq0
      have HX0 := Lib.hid hx0
      obtain ⟨op1, v1, rel1, col1, n1, s1, l1⟩ := y0
      rw [ExM.iff] at hx0
      obtain ⟨-, qq0, cc0, rfl, -, -⟩ := hx0
      have f0 := HFU.out _ _ _ hg0 (hcell 0 _ rfl)
      have f1 := HFU.out _ _ _ hg0 (hcell 1 _ rfl)
      have f2 := HFU.out _ _ _ hg0 (hcell 2 _ rfl)
      have f3 := HFU.out _ _ _ hg0 (hcell 3 _ rfl)
      have f4 := HFU.out _ _ _ hg0 (hcell 4 _ rfl)
      have f5 := HFU.out _ _ _ hg0 (hcell 5 _ rfl)
      have f6 := HFU.out _ _ _ hg0 (hcell 6 _ rfl)
      have f7 := HFU.out _ _ _ hg0 (hcell 7 _ rfl)
      have f8 := HFU.out _ _ _ hg0 (hcell 8 _ rfl)
      simp only [Nat.zero_mul, Nat.add_zero] at f0 f1 f2 f3 f4 f5 f6 f7 f8
      clear hcell
      gi_wp2_with fail
      refine wpIn_loop_rounds 3 ?_
      rw [roundsIn_succ]
      gi_wp2_with fail
      refine ⟨trivial, nodepth _, (HI.out (Ex.mk op1 v1 rel1 col1 n1 s1 l1) (by simp) _ (pre ++ [nd]) w0 _ _ Y V HX0.out (HFU.out.alloc _) (by have := HWS.out; have := HKU.out.size; simp; omega) HS0.out (HPU.out.kc (KC.alloc S _ _) HSY.out HSV.out) HSY.out HSV.out (fun k hk => HSk.out k (by have := HKU.out.size; simp at hk; omega)) (HJ.out _ _ _ HJU.out) (by have := HN.out; simp only [Ex.count, countL, List.length_append, List.length_cons, List.length_nil] at this ⊢; omega)).mono ?_⟩
      clear f0 f1 f2 f3 f4 f5 f6 f7 f8 c0 c1 c2 c3 c4 c5 c6 c7 c8 lt cV lV
      rintro e Z (⟨rfl, L, hm, hJZ, hk⟩ | ⟨rfl, L, hm, hxZ⟩)
      · skip
        have HKZ := Lib.hid (HKU.out.trans ((KC.alloc S _ _).trans hk))
        have HPZ := Lib.hid ((HPU.out.kc (KC.alloc S _ _) HSY.out HSV.out).kc hk HSY.out HSV.out)
        have HFZ := Lib.hid ((HFU.out.alloc _).kc hk HS0.out)
        have EU := (HEU.out.kc (KC.alloc S _ _) HSg.out).kc hk HSg.out
        have HEZ := Lib.hid EU
        have HJZ := Lib.hid hJZ
        have HM := Lib.hid hm
        clear hk hJZ hm
        obtain ⟨lt, c0, c1, c2, c3, c4, c5, c6, c7, c8⟩ := EU
        have cV := HPZ.out.cV
        have lV := HPZ.out.lV
        have hl_ := ExL.at_ (j := 1) (x := y1) HL.out rfl
        obtain ⟨g1, off1, cs1, hq1, hg1, hx1, hcell⟩ := hl_
        obtain ⟨rfl, rfl⟩ : g1 = g0 ∧ off1 = off0 := by cases hq1; exact ⟨rfl, rfl⟩
        clear hq1
        have HX1 := Lib.hid hx1
        obtain ⟨op2, v2, rel2, col2, n2, s2, l2⟩ := y1
        rw [ExM.iff] at hx1
        obtain ⟨-, qq1, cc1, rfl, -, -⟩ := hx1
        have f0 := HFZ.out _ _ _ hg1 (hcell 0 _ rfl)
        have f1 := HFZ.out _ _ _ hg1 (hcell 1 _ rfl)
        have f2 := HFZ.out _ _ _ hg1 (hcell 2 _ rfl)
        have f3 := HFZ.out _ _ _ hg1 (hcell 3 _ rfl)
        have f4 := HFZ.out _ _ _ hg1 (hcell 4 _ rfl)
        have f5 := HFZ.out _ _ _ hg1 (hcell 5 _ rfl)
        have f6 := HFZ.out _ _ _ hg1 (hcell 6 _ rfl)
        have f7 := HFZ.out _ _ _ hg1 (hcell 7 _ rfl)
        have f8 := HFZ.out _ _ _ hg1 (hcell 8 _ rfl)
        clear hcell
        gi_wp2_with fail
        rw [roundsIn_succ]
        gi_wp2_with fail
        refine ⟨trivial, nodepth _, (HI.out (Ex.mk op2 v2 rel2 col2 n2 s2 l2) (by simp) _ ((pre ++ [nd]) ++ L) w0 _ _ Y V HX1.out (HFZ.out.alloc _) (by have := HWS.out; have := HKZ.out.size; simp; omega) HS0.out (HPZ.out.kc (KC.alloc S _ _) HSY.out HSV.out) HSY.out HSV.out (fun k hk => HSk.out k (by have := HKZ.out.size; simp at hk; omega)) (HJ.out _ _ _ HJZ.out) (by have := HN.out; have h1 := congrArg List.length HM.out; rw [List.length_map, nodes_len] at h1; simp only [Ex.count, countL, List.length_append, List.length_cons, List.length_nil] at this h1 ⊢; omega)).mono ?_⟩
        clear f0 f1 f2 f3 f4 f5 f6 f7 f8 c0 c1 c2 c3 c4 c5 c6 c7 c8 lt cV lV
        rintro e T (⟨rfl, L2, hm, hJT, hk⟩ | ⟨rfl, L2, hm, hxT⟩)
        · skip
          have HKT := Lib.hid (HKZ.out.trans ((KC.alloc S _ _).trans hk))
          have HPT := Lib.hid ((HPZ.out.kc (KC.alloc S _ _) HSY.out HSV.out).kc hk HSY.out HSV.out)
          have HFT := Lib.hid ((HFZ.out.alloc _).kc hk HS0.out)
          have EU := (HEZ.out.kc (KC.alloc S _ _) HSg.out).kc hk HSg.out
          have HET := Lib.hid EU
          have HJT := Lib.hid hJT
          have HM2 := Lib.hid hm
          clear hk hJT hm
          obtain ⟨lt, c0, c1, c2, c3, c4, c5, c6, c7, c8⟩ := EU
          have cV := HPT.out.cV
          have lV := HPT.out.lV
          have HQ := Lib.hid (show List.map Nd.hd ([nd] ++ L ++ L2) = (Ex.mk op v rel col k s [(Ex.mk op1 v1 rel1 col1 n1 s1 l1), (Ex.mk op2 v2 rel2 col2 n2 s2 l2)]).nodes by rw [HND.out, List.map_append, List.map_append, HM.out, HM2.out]; simp only [Ex.nodes, nodesL, List.append_nil]; rfl)
          gi_wp2_with fail
          rw [roundsIn_succ]
          gi_wp2_with fail
          refine bodyPost_ret (v := .bool true) (by simp [results, Tryd.results56, go_sem]) rfl (.inl ⟨rfl, [nd] ++ L ++ L2, HQ.out, by rw [← List.append_assoc, ← List.append_assoc]; exact HJT.out, HKT.out⟩)
        · have HQ := Lib.hid (show List.map Nd.hd ([nd] ++ L ++ L2) <+: (Ex.mk op v rel col k s [(Ex.mk op1 v1 rel1 col1 n1 s1 l1), (Ex.mk op2 v2 rel2 col2 n2 s2 l2)]).nodes by
            obtain ⟨r, hr⟩ := hm
            refine ⟨r, ?_⟩
            rw [HND.out, List.map_append, List.map_append, HM.out, List.append_assoc, hr]; simp only [Ex.nodes, nodesL, List.append_nil]; rfl)
          have HX := Lib.hid hxT
          clear hxT hm
          gi_wp2_with fail
          refine bodyPost_ret (v := .bool false) (by simp [results, Tryd.results56, go_sem]) rfl (.inr ⟨rfl, [nd] ++ L ++ L2, HQ.out, by rw [← List.append_assoc, ← List.append_assoc]; exact HX.out⟩)
      · have HQ := Lib.hid (show List.map Nd.hd ([nd] ++ L) <+: (Ex.mk op v rel col k s [(Ex.mk op1 v1 rel1 col1 n1 s1 l1), y1]).nodes by
          obtain ⟨r, hr⟩ := hm
          refine ⟨r ++ y1.nodes, ?_⟩
          rw [HND.out, List.map_append, List.append_assoc, ← List.append_assoc _ r, hr]; simp only [Ex.nodes, nodesL, List.append_nil]; rfl)
        have HX := Lib.hid hxZ
        clear hxZ hm
        gi_wp2_with fail
        refine bodyPost_ret (v := .bool false) (by simp [results, Tryd.results56, go_sem]) rfl (.inr ⟨rfl, [nd] ++ L, HQ.out, by rw [← List.append_assoc]; exact HX.out⟩)
    · have h2 := HT.out
      simp only [List.length_cons] at h2
      omega
  · have HQ := Lib.hid (show List.map Nd.hd [nd] <+: (Ex.mk op v rel col k s t).nodes from ⟨nodesL t, by rw [HND.out, Ex.nodes]; rfl⟩)
    gi_wp2_with fail
    refine bodyPost_ret (v := .bool false) (by simp [results, Tryd.results56, go_sem]) rfl (.inr ⟨rfl, [nd], HQ.out, hx2⟩)
theorem visit_any (S : Nat → Prop) (l N : Nat) (J Jx : List Nd → World → Prop) (hJ : ∀ s X o, J s X → J s (X.alloc o))
    (hY : ∀ m pre (x : Nd) W, J pre W → pre.length < N → YieldAt Fence.wide m Tryd.prog l x.encs W fun e W' => (e = .returned (.bool true) ∧ J (pre ++ [x]) W' ∧ KC S W W') ∨ (e = .returned (.bool false) ∧ Jx (pre ++ [x]) W')) :
    ∀ (d : Nat) (x : Ex), x.deep ≤ d → x.okAll = true → VisitC S l N J Jx x
  | 0, x, h, _ => absurd (deep_pos x) (by omega)
  | d + 1, .mk op v rel col n s t, h, ho => by
    rw [Ex.okAll, Bool.and_eq_true] at ho
    exact visit_mk S l N J Jx hJ hY op v rel col n s t ho.1 fun y hy => visit_any S l N J Jx hJ hY d y (by rw [Ex.deep] at h; have := deepL_of_mem hy; omega) (by obtain ⟨i, hi, he⟩ := List.getElem_of_mem hy; exact okL_all ho.2 (i := i) (by rw [List.getElem?_eq_getElem hi, he]))
theorem RoundIn.anyW {m m' : Nat} {P : Program} {l : Nat} {f : FuncId} {tmps : Array Value} {assign body : Code} {w : World} {R : Ending → World → Prop}
    (h : RoundIn Fence.wide m P l f tmps assign body w R) : RoundIn Fence.wide m' P l f tmps assign body w R := ⟨h.1, fun c cs _ => h.2 c cs (fun d h => by cases h)⟩
theorem YieldAt.anyW {m : Nat} (m' : Nat) {P : Program} {l : Nat} {args : Array Value} {W : World} {R : Ending → World → Prop} (h : YieldAt Fence.wide m P l args W R) : YieldAt Fence.wide m' P l args W R := by
  obtain ⟨fn, tmps, assign, body, hy, hR⟩ := h
  exact ⟨fn, tmps, assign, body, hy, RoundIn.anyW hR⟩
set_option maxHeartbeats 4000000 in
theorem seq_any (S : Nat → Prop) (n B : Nat) (x : Ex) (cs : List Value) (w0 w : World) (hx : ExM w0 x cs) (ho : x.okAll = true) (hcf : CF w0 w) (hws : w0.heap.size ≤ w.heap.size) (hS0 : ∀ g, g < w0.heap.size → ¬ S g) (hSk : ∀ k, w.heap.size ≤ k → ¬ S k)
    (hB : B < w.heap.size) (hc : ∀ (k : Nat) u, cs[k]? = some u → w.cell? ⟨B, k, none⟩ = some u) :
    SeqStopsK Fence.wide n Tryd.prog 55 #[.pointer (some ⟨B, 0, none⟩)] Nd.encs (KC S) (fun L => L.map Nd.hd = x.nodes) (fun L => L.map Nd.hd <+: x.nodes) x.count w := by
  intro l J Jx W hW hAJ _ hY h0
  have hJ : ∀ (s : List Nd) (X : World) (o : Obj), J s X → J s (X.alloc o) := fun s X o h => hAJ s X _ none h (World.grownBy_alloc X o none) (fun r e => by cases e)
  have HV := Lib.hid (visit_any S l x.count J Jx hJ (fun m pre y X hj hl => YieldAt.anyW m (hY pre y X hj hl)) _ x (Nat.le_refl _) ho)
  have HX := Lib.hid hx
  obtain ⟨op, v, rel, col, k, s, t⟩ := x
  rw [ExM.iff] at hx
  obtain ⟨-, q, c, rfl, -, -⟩ := hx
  have f0 := (hW.cell (p := ⟨B, _, none⟩) hB).trans (hc 0 _ rfl)
  have f1 := (hW.cell (p := ⟨B, _, none⟩) hB).trans (hc 1 _ rfl)
  have f2 := (hW.cell (p := ⟨B, _, none⟩) hB).trans (hc 2 _ rfl)
  have f3 := (hW.cell (p := ⟨B, _, none⟩) hB).trans (hc 3 _ rfl)
  have f4 := (hW.cell (p := ⟨B, _, none⟩) hB).trans (hc 4 _ rfl)
  have f5 := (hW.cell (p := ⟨B, _, none⟩) hB).trans (hc 5 _ rfl)
  have f6 := (hW.cell (p := ⟨B, _, none⟩) hB).trans (hc 6 _ rfl)
  have f7 := (hW.cell (p := ⟨B, _, none⟩) hB).trans (hc 7 _ rfl)
  have f8 := (hW.cell (p := ⟨B, _, none⟩) hB).trans (hc 8 _ rfl)
  have lB := Nat.lt_of_lt_of_le hB hW.size
  have hcfW : CF w0 W := hcf.kc (KC.of_below (S := fun _ => False) hW) (fun _ _ h => h)
  obtain ⟨X, hX⟩ : ∃ X, X = (W.alloc (.cells #[.func (.yield l) #[] #[]] 51)).alloc (.cells #[.func (.func 56) #[] #[.pointer (some ⟨W.heap.size, 0, none⟩), .pointer (some ⟨W.heap.size + 1, 0, none⟩)]] 51) := ⟨_, rfl⟩
  have kX : KC S W X := by rw [hX]; exact (KC.alloc S _ _).trans (KC.alloc S _ _)
  have cX : CF w0 X := by rw [hX]; exact (hcfW.alloc _).alloc _
  have jX : J [] X := by rw [hX]; exact hJ _ _ _ (hJ _ _ _ h0)
  have zX : X.heap.size = W.heap.size + 1 + 1 := by rw [hX]; simp
  have pX : PC X l W.heap.size (W.heap.size + 1) := ⟨by rw [hX]; simp [go_sem], by rw [hX]; simp [go_sem], by omega, by omega⟩
  have HC := Lib.hid (HV.out (n - 1) [] w0 X _ _ _ HX.out cX (by have := hW.size; omega) hS0 pX (hSk _ hW.size) (hSk _ (by have := hW.size; omega)) (fun k hk => hSk k (by have := hW.size; omega)) jX (by simp))
  have HXX := Lib.hid hX
  clear kX cX jX zX pX hcfW hc hJ hY hAJ h0 hX hS0 hSk hcf hws ho HV HX hB hW
  refine callsIn_of_wp Tryd.func55 rfl trivial ?_ rfl
  simp only [Tryd.ntmps55, List.size_toArray, List.length_cons, List.length_nil, Nat.reduceAdd, Nat.reduceSub, Array.replicate_succ, Array.replicate_zero, List.push_toArray, List.append_toArray, List.nil_append, List.cons_append]
  gi_wp2_with fail
  rw [← HXX.out]
  refine ⟨trivial, nodepth _, HC.out.mono ?_⟩
  clear HC f0 f1 f2 f3 f4 f5 f6 f7 f8 HXX
  rintro e Y (⟨rfl, L, hm, hJY, hk⟩ | ⟨rfl, L, hm, hxY⟩)
  · gi_wp2_with fail
    go_end0
    exact ⟨⟨_, rfl⟩, .inl ⟨L, hm, by simpa using hJY⟩⟩
  · gi_wp2_with fail
    go_end0
    exact ⟨⟨_, rfl⟩, .inr ⟨L, hm, by simpa using hxY⟩⟩
theorem parts_any (n : Nat) (op : Int) (v : Val) (rel col k : Int) (s : ByteArray) (q : Option Addr) (len c : Nat) (w : World) :
    CallsIn Fence.wide n Tryd.prog 42 #[.agg (exCells op v rel col k s q len c).toArray] w fun e w' => e = .returned (.func (.func 55) #[] #[.pointer (some ⟨w.heap.size, 0, none⟩)]) ∧ w' = w.alloc (.cells (exCells op v rel col k s q len c).toArray 26) := by
  refine callsIn_of_wp Tryd.func42 rfl trivial ?_ rfl
  simp only [Tryd.ntmps42, List.size_toArray, List.length_cons, List.length_nil, Nat.reduceAdd, Nat.reduceSub, Array.replicate_succ, Array.replicate_zero, List.push_toArray, List.append_toArray, List.nil_append, List.cons_append]
  gi_wp2
  go_ret
  exact ⟨rfl, rfl⟩
open Go.RowKit Go.Shelf
set_option maxRecDepth 100000
def hdTab (h : Hd) : Nat := if h.op = 2 then 2 ^ h.rel.toNat else 0
def tabsH (l : List Hd) : Nat := l.foldl (fun t h => t ||| hdTab h) 0
theorem tabsH_from : ∀ (l : List Hd) (t : Nat), l.foldl (fun t h => t ||| hdTab h) t = t ||| tabsH l
  | [], t => by unfold tabsH; simp
  | h :: l, t => by
    unfold tabsH
    rw [List.foldl_cons, List.foldl_cons, tabsH_from l, tabsH_from l, Nat.zero_or, Nat.or_assoc]
theorem tabsH_append (a b : List Hd) : tabsH (a ++ b) = tabsH a ||| tabsH b := by
  conv => lhs; unfold tabsH
  rw [List.foldl_append, tabsH_from]
  rfl
theorem tabsH_one (x : Nd) : tabsH ([x].map Nd.hd) = hdTab x.hd := by
  show 0 ||| hdTab x.hd = _
  exact Nat.zero_or _
mutual
theorem tabsH_nodes : ∀ x : Ex, tabsH x.nodes = x.tabs
  | .mk op v rel col n s l => by
    rw [Ex.nodes, Ex.tabs, ← tabsH_nodesL l]
    unfold tabsH
    rw [List.foldl_cons, tabsH_from, Nat.zero_or]
    rfl
theorem tabsH_nodesL : ∀ l : List Ex, tabsH (nodesL l) = tabsL l
  | [] => by rw [nodesL, tabsL]; rfl
  | x :: r => by rw [nodesL, tabsL, tabsH_append, tabsH_nodes x, tabsH_nodesL r]
end
theorem hdTab_lt {x : Nd} : hdTab x.hd < 65536 := by
  unfold hdTab
  split
  · rename_i e
    have := rel_ok x.ok e
    have h2 : 2 ^ x.hd.rel.toNat < 2 ^ 16 := Nat.pow_lt_pow_right (by omega) (by omega)
    exact h2
  · omega
theorem tabsH_lt (l : List Nd) : tabsH (l.map Nd.hd) < 65536 := by
  have go : ∀ (l : List Nd) (t : Nat), t < 2 ^ 16 → (l.map Nd.hd).foldl (fun t h => t ||| hdTab h) t < 2 ^ 16 := by
    intro l
    induction l with
    | nil => intro t h; exact h
    | cons x l ih => intro t h; exact ih _ (Nat.or_lt_two_pow h hdTab_lt)
  exact go l 0 (by omega)
def Blk (W : World) (B : Nat) (t : TypeId) (cs : Array Value) : Prop := W.heap[B]? = some (.cells cs t (0, 0))
theorem Blk.lt {W : World} {B : Nat} {t : TypeId} {cs : Array Value} (h : Blk W B t cs) : B < W.heap.size := (Array.getElem?_eq_some_iff.1 h).1
theorem Blk.cell {W : World} {B : Nat} {t : TypeId} {cs : Array Value} (h : Blk W B t cs) {k : Nat} {u : Value} (hk : cs[k]? = some u) : W.cell? ⟨B, k, none⟩ = some u := by rw [Lib.cell_of_heap h]; exact hk
theorem Blk.kept {W W' : World} {row : Option Nat} {B : Nat} {t : TypeId} {cs : Array Value} (h : Blk W B t cs) (hg : W.grownBy W' row) (hne : ∀ r, row = some r → ∃ o : Obj, W.heap[r]? = some o ∧ o.isCells = false) : Blk W' B t cs := by
  refine (hg.block B h.lt (fun e => ?_)).trans h
  obtain ⟨o, ho, hc⟩ := hne B e.symm
  rw [show W.heap[B]? = _ from h] at ho
  cases ho
  cases hc
theorem Blk.alloc {W : World} {B : Nat} {t : TypeId} {cs : Array Value} (h : Blk W B t cs) (o : Obj) : Blk (W.alloc o) B t cs := h.kept (World.grownBy_alloc W o none) (fun _ e => by cases e)
theorem Blk.new (W : World) (t : TypeId) (cs : Array Value) : Blk (W.alloc (.cells cs t)) W.heap.size t cs := heap_alloc_new W _
theorem Blk.eb {W : World} {B : Nat} {t : TypeId} {op : Int} {v : Val} {rel col n : Int} {s : ByteArray} {q : Option Addr} {len c : Nat} (h : Blk W B t (exCells op v rel col n s q len c).toArray) : EB W B op v rel col n s q len c :=
  ⟨h.lt, h.cell rfl, h.cell rfl, h.cell rfl, h.cell rfl, h.cell rfl, h.cell rfl, h.cell rfl, h.cell rfl, h.cell rfl⟩
attribute [local go_sem] Oper.semAt_some
set_option maxHeartbeats 8000000 in
theorem dtables_any (x : Ex) (cs : List Value) (w : World) (hx : ExM w x cs) (hG : GE w) : Calls Tryd.prog 28 #[.agg cs.toArray] w fun e w' => e = .returned (.int .i64 (tablesE x : Nat)) ∧ Below w.heap.size w w' := by
  have HX := Lib.hid hx
  have HG := Lib.hid hG
  obtain ⟨op, v, rel, col, n, s, t⟩ := x
  rw [ExM.iff] at hx
  obtain ⟨-, q, c, rfl, -, -⟩ := hx
  have E0 := EB.new w op v rel col n s q t.length c 26
  have B0 : Below w.heap.size w (w.alloc (.cells (exCells op v rel col n s q t.length c).toArray 26)) := ext_alloc (ext_refl _) _
  obtain ⟨W, hW⟩ : ∃ W, W = w.alloc (.cells (exCells op v rel col n s q t.length c).toArray 26) := ⟨_, rfl⟩
  rw [← hW] at E0 B0
  have HW := Lib.hid hW
  have HB := Lib.hid B0
  have HE := Lib.hid E0
  clear hG hW B0
  obtain ⟨lt, c0, c1, c2, c3, c4, c5, c6, c7, c8⟩ := E0
  refine (callsIn_wide (n := 9)).1 (callsIn_of_wp_marks Tryd.func28 rfl trivial ?_ rfl)
  simp only [Tryd.ntmps28, List.size_toArray, List.length_cons, List.length_nil, Nat.reduceAdd, Nat.reduceSub, Array.replicate_succ, Array.replicate_zero, List.push_toArray, List.append_toArray, List.nil_append, List.cons_append]
  gi_wp2_with fail
  rw [← HW.out]
  refine ⟨trivial, (callsIn_wide.2 (dright_any _ _ W (ExM.ext HB.out _ _ HX.out) (HG.out.on HB.out))).mono ?_⟩
  clear HW
  rintro e X ⟨he, hbX⟩
  have HBX := Lib.hid (HB.out.trans (hbX.mono HB.out.size))
  have EX := HE.out.on hbX
  have HEX := Lib.hid EX
  obtain ⟨g, hg⟩ : ∃ g, g = w.heap.size := ⟨_, rfl⟩
  rw [← hg] at EX HEX ⊢
  have HGW := Lib.hid hg
  clear hbX c0 c1 c2 c3 c4 c5 c6 c7 c8 lt HB HE hg
  obtain ⟨lt, c0, c1, c2, c3, c4, c5, c6, c7, c8⟩ := EX
  cases hs : rightE (.mk op v rel col n s t) with
  | false =>
    have HQ := Lib.hid hs
    rw [hs] at he
    clear hs
    subst he
    gi_wp2_with fail
    exact ⟨.int .i64 0, by simp [results, Tryd.results28, go_sem], by rw [tablesE, HQ.out]; rfl, HBX.out⟩
  | true =>
    have HP := Lib.hid (rightE_parts hs)
    have HQ := Lib.hid hs
    rw [hs] at he
    clear hs
    subst he
    gi_wp2_with fail
    refine ⟨trivial, (parts_any 8 op v rel col n s q t.length c _).mono ?_⟩
    rintro e Z ⟨rfl, hZ⟩
    obtain ⟨A, hA⟩ : ∃ A, A = X.heap.size := ⟨_, rfl⟩
    have zA : (X.alloc (.cells #[.int .i64 0] 3)).heap.size = A + 1 := by rw [hA]; simp
    rw [zA]
    rw [← hA]
    have bS : Boxed Z A 3 (.int .i64 ((tabsH (([] : List Nd).map Nd.hd) : Nat) : Int)) := by rw [hZ, hA]; exact (Boxed.new X _ _).alloc _
    have bP : Blk Z (A + 1) 26 (exCells op v rel col n s q t.length c).toArray := by rw [hZ, ← zA]; exact Blk.new _ _ _
    have zZ : Z.heap.size = A + 1 + 1 := by rw [hZ, World.size_alloc, zA]
    have bZ : Below w.heap.size w Z := by
      rw [hZ]
      exact ext_alloc (ext_alloc HBX.out _) _
    have hAw : w.heap.size < A := by rw [hA, ← HGW.out]; exact HEX.out.lt
    have HBZ := Lib.hid bZ
    have HAw := Lib.hid hAw
    have HXw := Lib.hid HX.out
    clear hZ hA c0 c1 c2 c3 c4 c5 c6 c7 c8 lt zA HBX HEX hAw
    gi_wp2_with fail
    refine wpIn_rangeFunc_ownH rfl (by omega) (gf := 55) (lb := #[.pointer (some ⟨A + 1, 0, none⟩)]) rfl trivial (enters_of Tryd.func55 (by kernel_rfl) rfl)
      (seq_any (fun k => k = A) _ (A + 1) _ _ w Z HX.out HP.out.1 (CF.of HBZ.out) HBZ.out.size (fun g hg e => by have := HAw.out; omega) (fun k hk e => by omega) (by omega) (fun k u hu => bP.cell (by simpa using hu)))
      (fun h k => h.trans k) (fun W l o o' _ hl hc _ => KC.put W l o o' hl hc) (Below.refl _ _) (fun _ => rfl)
      (fun pre W => Boxed W A 3 (.int .i64 ((tabsH (pre.map Nd.hd) : Nat) : Int)) ∧ Below w.heap.size w W)
      (fun _ _ _ => False)
      (OwnFrom.and (Own.from (boxed_own _ _ _) _) (ownFrom_below (Nat.le_refl _) HBZ.out.size))
      (fun _ _ _ _ _ hs _ _ => hs)
      ⟨bS, HBZ.out⟩
      (fun x a' W => ∃ Bx, A < Bx ∧ Blk W Bx 26 x.cells ∧ a' = { tmps := #[.agg (exCells op v rel col n s q t.length c).toArray, .pointer (some ⟨g, 0, none⟩), .int .i64 0, .pointer (some ⟨A, 0, none⟩), .pointer (some ⟨Bx, 0, none⟩), .agg (exCells op v rel col n s q t.length c).toArray, .bool true, .bool false, .agg (exCells op v rel col n s q t.length c).toArray, .func (.func 55) #[] #[.pointer (some ⟨A + 1, 0, none⟩)], .agg x.cells, undef, undef, undef, undef, undef, undef, undef, undef, undef], defers := [] })
      (fun x a' _ X Y row hs hg hr => by obtain ⟨Bx, h1, h2, h3⟩ := hs; exact ⟨Bx, h1, h2.kept hg (fun r e => (hr r e).2), h3⟩)
      ?assign ?body ?done ?stop
    case assign =>
      rintro l pre ⟨⟨op1, v1, rel1, col1, n1, s1, len1⟩, q1, c1, ok1⟩ W K ⟨bS1, hB1⟩ hK
      have h1 := bS1.lt
      have HK := Lib.hid hK
      clear hK
      dsimp only [Nd.encs, Nd.cells]
      gi_wp2
      exact HK.out _ _ ((KeepsOthers.alloc _ _).from _) (KC.alloc _ _ _) ⟨bS1.alloc _, ext_alloc hB1 _⟩ ⟨W.heap.size, h1, Blk.new W _ _, rfl⟩
    case body =>
      rintro l pre ⟨⟨op1, v1, rel1, col1, n1, s1, len1⟩, q1, cc1, ok1⟩ a' W hl - ⟨bS1, hB1⟩ ⟨Bx, hBx, bX, rfl⟩ -
      dsimp only [Nd.encs, Nd.cells] at bX ok1 ⊢
      obtain ⟨lt, c0, c1, c2, c3, c4, c5, c6, c7, c8⟩ := bX.eb
      have cA := bS1.cell
      have fA := bS1.frozen
      have lA := bS1.lt
      obtain ⟨T, hT⟩ : ∃ T, T = tabsH (pre.map Nd.hd) := ⟨_, rfl⟩
      rw [← hT] at cA
      have hTl : T < 65536 := by rw [hT]; exact tabsH_lt pre
      have HTT := Lib.hid hT
      clear hT
      by_cases h2 : op1 = 2
      · have q2 : (op1 == 2) = true := by rw [beq_iff_eq]; exact h2
        have hr := rel_ok ok1 h2
        have e1 := pow_in hr.2
        obtain ⟨r, rfl⟩ : ∃ r : Nat, rel1 = (r : Int) := ⟨rel1.toNat, by omega⟩
        have HQ2 := Lib.hid h2
        clear h2
        have hmx : Tryd.prog.follows .mixedOrders = true := by kernel_rfl
        have e2 : bits .or .i64 (T : Int) (2 ^ r) = ((T ||| 2 ^ r : Nat) : Int) := by
          have h2 : 2 ^ r < 2 ^ 16 := Nat.pow_lt_pow_right (by omega) (by omega)
          rw [show ((2 : Int) ^ r) = ((2 ^ r : Nat) : Int) by simp]
          exact bits_or_nat hTl h2
        rw [Int.toNat_natCast] at e1
        have e3 : bits .or .i64 (T : Int) (IntKind.i64.wrap (2 ^ r)) = ((T ||| 2 ^ r : Nat) : Int) := by
          have e4 : IntKind.i64.wrap (2 ^ r) = 2 ^ r := by
            rw [IntKind.wrap_i64]
            have h := e1
            unfold wrap64 at h
            exact h
          rw [e4, e2]
        have bN : Boxed (W.setCell ⟨A, 0, none⟩ (.int .i64 ((T ||| 2 ^ r : Nat) : Int))) A 3 (.int .i64 ((tabsH ((pre ++ [(⟨⟨op1, v1, (r : Int), col1, n1, s1, len1⟩, q1, cc1, ok1⟩ : Nd)]).map Nd.hd) : Nat) : Int)) := by
          rw [List.map_append, tabsH_append, ← HTT.out, tabsH_one, hdTab, if_pos HQ2.out, Int.toNat_natCast]
          exact bS1.set _
        have kN : KC (fun k => k = A) W (W.setCell ⟨A, 0, none⟩ (.int .i64 ((T ||| 2 ^ r : Nat) : Int))) := KC.of_out (Out.set _ _ rfl)
        have kB : Below w.heap.size w (W.setCell ⟨A, 0, none⟩ (.int .i64 ((T ||| 2 ^ r : Nat) : Int))) := hB1.setCell (p := ⟨A, 0, none⟩) (by have := HAw.out; show w.heap.size ≤ A; omega) _
        have HF := Lib.hid (And.intro bN (And.intro kN kB))
        clear bN kN kB e1 e2
        gi_wp2_with fail
        gi_region_with_o (fail)
        all_goals gi_wp2
        all_goals (try rw [e3])
        all_goals exact ⟨((KeepsOthers.setCell _ _ _).trans (KeepsOthers.drew _)).from _, ⟨HF.out.2.1.size, HF.out.2.1.same⟩, HF.out.1, HF.out.2.2.drew⟩
      · have q2 : (op1 == 2) = false := by rw [beq_eq_false_iff_ne]; exact h2
        have HQ2 := Lib.hid h2
        clear h2
        gi_wp2_with fail
        refine ⟨KeepsFrom.refl _ _, KC.refl _ _, ?_, hB1⟩
        rw [List.map_append, tabsH_append, ← HTT.out, tabsH_one, hdTab, if_neg (by intro e; rw [beq_eq_false_iff_ne] at q2; exact q2 e), Nat.or_zero, HTT.out]
        exact bS1
    case done =>
      rintro D ys W hD hm ⟨bS1, hB1⟩ hK
      have cA := bS1.cell
      gi_wp2
      refine ⟨by simp, .inl ⟨_, _, rfl, run_takeDeferred hK, ?_⟩⟩
      refine ⟨_, results_tmp rfl _ _ _, ?_, hB1.trans (belowK_b (w := w) (Nat.le_refl _) W D _ _ (Nat.le_trans HBZ.out.size hD) hK rfl rfl)⟩
      show Ending.returned (.int .i64 _) = _
      rw [tablesE, HQ.out, tabsH_nodes]
      rfl
    case stop =>
      rintro D c pre W _ _ h _
      exact h.elim
open Go.RowKit Go.Shelf
set_option maxRecDepth 100000
attribute [local go_sem] Oper.semAt_some
end Go.Proofs.YtklgoajgchfmeaaDoor
