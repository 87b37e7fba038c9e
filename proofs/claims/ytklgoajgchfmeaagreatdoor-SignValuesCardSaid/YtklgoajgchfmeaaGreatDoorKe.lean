/- A part of the proof. -/
import Derived.Test.YtklgoajgchfmeaaGreatDoorKd
import Derived.Test.YtklgoajgchfmeaaGreatDoorKb
import Derived.Deep.Upon
import Derived.Maps.AppendAt
import Derived.RegionTactic
import Derived.Deep.Slices
set_option linter.unusedVariables false
set_option linter.unusedSimpArgs false
namespace Go.Proofs.YtklgoajgchfmeaaGreatDoor
open Go.RowKit Go.Shelf
set_option maxRecDepth 100000
def hdTab (h : Hd) : Nat := if h.op = 2 then 2 ^ h.rel.toNat else 0
def tabsH (l : List Hd) : Nat := l.foldl (fun t h => t ||| hdTab h) 0
theorem tabsH_from : ∀ (l : List Hd) (t : Nat), l.foldl (fun t h => t ||| hdTab h) t = t ||| tabsH l
  | [], t => by unfold tabsH; simp
  | h :: l, t => by
    unfold tabsH
    rw [List.foldl_cons, List.foldl_cons, tabsH_from l, tabsH_from l, Nat.zero_or, Nat.or_assoc]
theorem tabsH_append (a b : List Hd) : tabsH (a ++ b) = tabsH a ||| tabsH b := by
  conv => lhs; unfold tabsH
  rw [List.foldl_append, tabsH_from]
  rfl
theorem tabsH_one (x : Nd) : tabsH ([x].map Nd.hd) = hdTab x.hd := by
  show 0 ||| hdTab x.hd = _
  exact Nat.zero_or _
mutual
theorem tabsH_nodes : ∀ x : Ex, tabsH x.nodes = x.tabs
  | .mk op v rel col n s l => by
    rw [Ex.nodes, Ex.tabs, ← tabsH_nodesL l]
    unfold tabsH
    rw [List.foldl_cons, tabsH_from, Nat.zero_or]
    rfl
theorem tabsH_nodesL : ∀ l : List Ex, tabsH (nodesL l) = tabsL l
  | [] => by rw [nodesL, tabsL]; rfl
  | x :: r => by rw [nodesL, tabsL, tabsH_append, tabsH_nodes x, tabsH_nodesL r]
end
theorem hdTab_lt {x : Nd} : hdTab x.hd < 65536 := by
  unfold hdTab
  split
  · rename_i e
    have := rel_ok x.ok e
    have h2 : 2 ^ x.hd.rel.toNat < 2 ^ 16 := Nat.pow_lt_pow_right (by omega) (by omega)
    exact h2
  · omega
theorem tabsH_lt (l : List Nd) : tabsH (l.map Nd.hd) < 65536 := by
  have go : ∀ (l : List Nd) (t : Nat), t < 2 ^ 16 → (l.map Nd.hd).foldl (fun t h => t ||| hdTab h) t < 2 ^ 16 := by
    intro l
    induction l with
    | nil => intro t h; exact h
    | cons x l ih => intro t h; exact ih _ (Nat.or_lt_two_pow h hdTab_lt)
  exact go l 0 (by omega)
def Blk (W : World) (B : Nat) (t : TypeId) (cs : Array Value) : Prop := W.heap[B]? = some (.cells cs t (0, 0))
theorem Blk.lt {W : World} {B : Nat} {t : TypeId} {cs : Array Value} (h : Blk W B t cs) : B < W.heap.size := (Array.getElem?_eq_some_iff.1 h).1
theorem Blk.cell {W : World} {B : Nat} {t : TypeId} {cs : Array Value} (h : Blk W B t cs) {k : Nat} {u : Value} (hk : cs[k]? = some u) : W.cell? ⟨B, k, none⟩ = some u := by rw [Lib.cell_of_heap h]; exact hk
theorem Blk.kept {W W' : World} {row : Option Nat} {B : Nat} {t : TypeId} {cs : Array Value} (h : Blk W B t cs) (hg : W.grownBy W' row) (hne : ∀ r, row = some r → ∃ o : Obj, W.heap[r]? = some o ∧ o.isCells = false) : Blk W' B t cs := by
  refine (hg.block B h.lt (fun e => ?_)).trans h
  obtain ⟨o, ho, hc⟩ := hne B e.symm
  rw [show W.heap[B]? = _ from h] at ho
  cases ho
  cases hc
theorem Blk.alloc {W : World} {B : Nat} {t : TypeId} {cs : Array Value} (h : Blk W B t cs) (o : Obj) : Blk (W.alloc o) B t cs := h.kept (World.grownBy_alloc W o none) (fun _ e => by cases e)
theorem Blk.new (W : World) (t : TypeId) (cs : Array Value) : Blk (W.alloc (.cells cs t)) W.heap.size t cs := heap_alloc_new W _
theorem Blk.eb {W : World} {B : Nat} {t : TypeId} {op : Int} {v : Val} {rel col n : Int} {s : ByteArray} {q : Option Addr} {len c : Nat} (h : Blk W B t (exCells op v rel col n s q len c).toArray) : EB W B op v rel col n s q len c :=
  ⟨h.lt, h.cell rfl, h.cell rfl, h.cell rfl, h.cell rfl, h.cell rfl, h.cell rfl, h.cell rfl, h.cell rfl, h.cell rfl⟩
attribute [local go_sem] Oper.semAt_some
set_option maxHeartbeats 8000000 in
theorem dtables_any (x : Ex) (cs : List Value) (w : World) (hx : ExM w x cs) (hG : GE w) : Calls Tryz.prog 7 #[.agg cs.toArray] w fun e w' => e = .returned (.int .i64 (tablesE x : Nat)) ∧ Below w.heap.size w w' := by
  have HX := Lib.hid hx
  have HG := Lib.hid hG
  obtain ⟨op, v, rel, col, n, s, t⟩ := x
  rw [ExM.iff] at hx
  obtain ⟨-, q, c, rfl, -, -⟩ := hx
  have E0 := EB.new w op v rel col n s q t.length c 26
  have B0 : Below w.heap.size w (w.alloc (.cells (exCells op v rel col n s q t.length c).toArray 26)) := ext_alloc (ext_refl _) _
  obtain ⟨W, hW⟩ : ∃ W, W = w.alloc (.cells (exCells op v rel col n s q t.length c).toArray 26) := ⟨_, rfl⟩
  rw [← hW] at E0 B0
  have HW := Lib.hid hW
  have HB := Lib.hid B0
  have HE := Lib.hid E0
  clear hG hW B0
  obtain ⟨lt, c0, c1, c2, c3, c4, c5, c6, c7, c8⟩ := E0
  refine (callsIn_wide (n := 9)).1 (callsIn_of_wp_marks Tryz.func7 rfl trivial ?_ rfl)
  simp only [Tryz.ntmps7, List.size_toArray, List.length_cons, List.length_nil, Nat.reduceAdd, Nat.reduceSub, Array.replicate_succ, Array.replicate_zero, List.push_toArray, List.append_toArray, List.nil_append, List.cons_append]
  gi_wp2_with fail
  rw [← HW.out]
  refine ⟨trivial, (callsIn_wide.2 (dright_any _ _ W (ExM.ext HB.out _ _ HX.out) (HG.out.on HB.out))).mono ?_⟩
  clear HW
  rintro e X ⟨he, hbX⟩
  have HBX := Lib.hid (HB.out.trans (hbX.mono HB.out.size))
  have EX := HE.out.on hbX
  have HEX := Lib.hid EX
  obtain ⟨g, hg⟩ : ∃ g, g = w.heap.size := ⟨_, rfl⟩
  rw [← hg] at EX HEX ⊢
  have HGW := Lib.hid hg
  clear hbX c0 c1 c2 c3 c4 c5 c6 c7 c8 lt HB HE hg
  obtain ⟨lt, c0, c1, c2, c3, c4, c5, c6, c7, c8⟩ := EX
  cases hs : rightE (.mk op v rel col n s t) with
  | false =>
    have HQ := Lib.hid hs
    rw [hs] at he
    clear hs
    subst he
    gi_wp2_with fail
    exact ⟨.int .i64 0, by simp [results, Tryz.results7, go_sem], by rw [tablesE, HQ.out]; rfl, HBX.out⟩
  | true =>
    have HP := Lib.hid (rightE_parts hs)
    have HQ := Lib.hid hs
    rw [hs] at he
    clear hs
    subst he
    gi_wp2_with fail
    refine ⟨trivial, (parts_any 8 op v rel col n s q t.length c _).mono ?_⟩
    rintro e Z ⟨rfl, hZ⟩
    obtain ⟨A, hA⟩ : ∃ A, A = X.heap.size := ⟨_, rfl⟩
    have zA : (X.alloc (.cells #[.int .i64 0] 3)).heap.size = A + 1 := by rw [hA]; simp
    rw [zA]
    rw [← hA]
    have bS : Boxed Z A 3 (.int .i64 ((tabsH (([] : List Nd).map Nd.hd) : Nat) : Int)) := by rw [hZ, hA]; exact (Boxed.new X _ _).alloc _
    have bP : Blk Z (A + 1) 26 (exCells op v rel col n s q t.length c).toArray := by rw [hZ, ← zA]; exact Blk.new _ _ _
    have zZ : Z.heap.size = A + 1 + 1 := by rw [hZ, World.size_alloc, zA]
    have bZ : Below w.heap.size w Z := by
      rw [hZ]
      exact ext_alloc (ext_alloc HBX.out _) _
    have hAw : w.heap.size < A := by rw [hA, ← HGW.out]; exact HEX.out.lt
    have HBZ := Lib.hid bZ
    have HAw := Lib.hid hAw
    have HXw := Lib.hid HX.out
    clear hZ hA c0 c1 c2 c3 c4 c5 c6 c7 c8 lt zA HBX HEX hAw
    gi_wp2_with fail
    refine wpIn_rangeFunc_ownH rfl (by omega) (gf := 40) (lb := #[.pointer (some ⟨A + 1, 0, none⟩)]) rfl trivial (enters_of Tryz.func40 (by kernel_rfl) rfl)
      (seq_any (fun k => k = A) _ (A + 1) _ _ w Z HX.out HP.out.1 (CF.of HBZ.out) HBZ.out.size (fun g hg e => by have := HAw.out; omega) (fun k hk e => by omega) (by omega) (fun k u hu => bP.cell (by simpa using hu)))
      (fun h k => h.trans k) (fun W l o o' _ hl hc _ => KC.put W l o o' hl hc) (Below.refl _ _) (fun _ => rfl)
      (fun pre W => Boxed W A 3 (.int .i64 ((tabsH (pre.map Nd.hd) : Nat) : Int)) ∧ Below w.heap.size w W)
      (fun _ _ _ => False)
      (OwnFrom.and (Own.from (boxed_own _ _ _) _) (ownFrom_below (Nat.le_refl _) HBZ.out.size))
      (fun _ _ _ _ _ hs _ _ => hs)
      ⟨bS, HBZ.out⟩
      (fun x a' W => ∃ Bx, A < Bx ∧ Blk W Bx 26 x.cells ∧ a' = { tmps := #[.agg (exCells op v rel col n s q t.length c).toArray, .pointer (some ⟨g, 0, none⟩), .int .i64 0, .pointer (some ⟨A, 0, none⟩), .pointer (some ⟨Bx, 0, none⟩), .agg (exCells op v rel col n s q t.length c).toArray, .bool true, .bool false, .agg (exCells op v rel col n s q t.length c).toArray, .func (.func 40) #[] #[.pointer (some ⟨A + 1, 0, none⟩)], .agg x.cells, undef, undef, undef, undef, undef, undef, undef, undef, undef], defers := [] })
      (fun x a' _ X Y row hs hg hr => by obtain ⟨Bx, h1, h2, h3⟩ := hs; exact ⟨Bx, h1, h2.kept hg (fun r e => (hr r e).2), h3⟩)
      ?assign ?body ?done ?stop
    case assign =>
      rintro l pre ⟨⟨op1, v1, rel1, col1, n1, s1, len1⟩, q1, c1, ok1⟩ W K ⟨bS1, hB1⟩ hK
      have h1 := bS1.lt
      have HK := Lib.hid hK
      clear hK
      dsimp only [Nd.encs, Nd.cells]
      gi_wp2
      exact HK.out _ _ ((KeepsOthers.alloc _ _).from _) (KC.alloc _ _ _) ⟨bS1.alloc _, ext_alloc hB1 _⟩ ⟨W.heap.size, h1, Blk.new W _ _, rfl⟩
    case body =>
      rintro l pre ⟨⟨op1, v1, rel1, col1, n1, s1, len1⟩, q1, cc1, ok1⟩ a' W hl - ⟨bS1, hB1⟩ ⟨Bx, hBx, bX, rfl⟩ -
      dsimp only [Nd.encs, Nd.cells] at bX ok1 ⊢
      obtain ⟨lt, c0, c1, c2, c3, c4, c5, c6, c7, c8⟩ := bX.eb
      have cA := bS1.cell
      have fA := bS1.frozen
      have lA := bS1.lt
      obtain ⟨T, hT⟩ : ∃ T, T = tabsH (pre.map Nd.hd) := ⟨_, rfl⟩
      rw [← hT] at cA
      have hTl : T < 65536 := by rw [hT]; exact tabsH_lt pre
      have HTT := Lib.hid hT
      clear hT
      by_cases h2 : op1 = 2
      · have q2 : (op1 == 2) = true := by rw [beq_iff_eq]; exact h2
        have hr := rel_ok ok1 h2
        have e1 := pow_in hr.2
        obtain ⟨r, rfl⟩ : ∃ r : Nat, rel1 = (r : Int) := ⟨rel1.toNat, by omega⟩
        have HQ2 := Lib.hid h2
        clear h2
        have hmx : Tryz.prog.follows .mixedOrders = true := by kernel_rfl
        have e2 : bits .or .i64 (T : Int) (2 ^ r) = ((T ||| 2 ^ r : Nat) : Int) := by
          have h2 : 2 ^ r < 2 ^ 16 := Nat.pow_lt_pow_right (by omega) (by omega)
          rw [show ((2 : Int) ^ r) = ((2 ^ r : Nat) : Int) by simp]
          exact bits_or_nat hTl h2
        rw [Int.toNat_natCast] at e1
        have e3 : bits .or .i64 (T : Int) (IntKind.i64.wrap (2 ^ r)) = ((T ||| 2 ^ r : Nat) : Int) := by
          have e4 : IntKind.i64.wrap (2 ^ r) = 2 ^ r := by
            rw [IntKind.wrap_i64]
            have h := e1
            unfold wrap64 at h
            exact h
          rw [e4, e2]
        have bN : Boxed (W.setCell ⟨A, 0, none⟩ (.int .i64 ((T ||| 2 ^ r : Nat) : Int))) A 3 (.int .i64 ((tabsH ((pre ++ [(⟨⟨op1, v1, (r : Int), col1, n1, s1, len1⟩, q1, cc1, ok1⟩ : Nd)]).map Nd.hd) : Nat) : Int)) := by
          rw [List.map_append, tabsH_append, ← HTT.out, tabsH_one, hdTab, if_pos HQ2.out, Int.toNat_natCast]
          exact bS1.set _
        have kN : KC (fun k => k = A) W (W.setCell ⟨A, 0, none⟩ (.int .i64 ((T ||| 2 ^ r : Nat) : Int))) := KC.of_out (Out.set _ _ rfl)
        have kB : Below w.heap.size w (W.setCell ⟨A, 0, none⟩ (.int .i64 ((T ||| 2 ^ r : Nat) : Int))) := hB1.setCell (p := ⟨A, 0, none⟩) (by have := HAw.out; show w.heap.size ≤ A; omega) _
        have HF := Lib.hid (And.intro bN (And.intro kN kB))
        clear bN kN kB e1 e2
        gi_wp2_with fail
        gi_region_with_o (fail)
        all_goals gi_wp2
        all_goals (try rw [e3])
        all_goals exact ⟨((KeepsOthers.setCell _ _ _).trans (KeepsOthers.drew _)).from _, ⟨HF.out.2.1.size, HF.out.2.1.same⟩, HF.out.1, HF.out.2.2.drew⟩
      · have q2 : (op1 == 2) = false := by rw [beq_eq_false_iff_ne]; exact h2
        have HQ2 := Lib.hid h2
        clear h2
        gi_wp2_with fail
        refine ⟨KeepsFrom.refl _ _, KC.refl _ _, ?_, hB1⟩
        rw [List.map_append, tabsH_append, ← HTT.out, tabsH_one, hdTab, if_neg (by intro e; rw [beq_eq_false_iff_ne] at q2; exact q2 e), Nat.or_zero, HTT.out]
        exact bS1
    case done =>
      rintro D ys W hD hm ⟨bS1, hB1⟩ hK
      have cA := bS1.cell
      gi_wp2
      refine ⟨by simp, .inl ⟨_, _, rfl, run_takeDeferred hK, ?_⟩⟩
      refine ⟨_, results_tmp rfl _ _ _, ?_, hB1.trans (belowK_b (w := w) (Nat.le_refl _) W D _ _ (Nat.le_trans HBZ.out.size hD) hK rfl rfl)⟩
      show Ending.returned (.int .i64 _) = _
      rw [tablesE, HQ.out, tabsH_nodes]
      rfl
    case stop =>
      rintro D c pre W _ _ h _
      exact h.elim
open Go.RowKit Go.Shelf
set_option maxRecDepth 100000
def arithH (h : Hd) : Bool := decide (4 ≤ h.op) && decide (h.op ≤ 8)
mutual
theorem safe_nodes : ∀ x : Ex, x.safe = !(x.nodes.any arithH)
  | .mk op v rel col n s l => by
    rw [Ex.nodes, Ex.safe, safe_nodesL l, List.any_cons, Bool.not_or]
    rfl
theorem safe_nodesL : ∀ l : List Ex, safeL l = !((nodesL l).any arithH)
  | [] => by rw [nodesL, safeL]; rfl
  | x :: r => by rw [nodesL, safeL, List.any_append, Bool.not_or, safe_nodes x, safe_nodesL r]
end
theorem any_prefix {p : Hd → Bool} {a b : List Hd} (h : a <+: b) (ha : a.any p = true) : b.any p = true := by
  obtain ⟨r, rfl⟩ := h
  rw [List.any_append, ha, Bool.true_or]
theorem boxed_put {W : World} {B : Nat} {t : TypeId} {v : Value} {D : Nat} {o o' : Obj} (h : Boxed W B t v) (hD : W.heap[D]? = some o) (hc : o.isCells = false) : Boxed (W.putObj D o') B t v := by
  refine h.kept (grownBy_putObj' W D o') (fun e => ?_)
  cases e
  rw [show W.heap[B]? = _ from h] at hD
  cases hD
  cases hc
attribute [local go_sem] Oper.semAt_some
set_option maxHeartbeats 8000000 in
theorem dsafe_any (x : Ex) (cs : List Value) (w : World) (hx : ExM w x cs) (hG : GE w) : Calls Tryz.prog 8 #[.agg cs.toArray] w fun e w' => e = .returned (.bool (rightE x && x.safe)) ∧ Below w.heap.size w w' := by
  have HX := Lib.hid hx
  have HG := Lib.hid hG
  obtain ⟨op, v, rel, col, n, s, t⟩ := x
  rw [ExM.iff] at hx
  obtain ⟨-, q, c, rfl, -, -⟩ := hx
  have E0 := EB.new w op v rel col n s q t.length c 26
  have B0 : Below w.heap.size w ((w.alloc (.cells (exCells op v rel col n s q t.length c).toArray 26)).alloc (.cells #[.bool false] 4)) := ext_alloc (ext_alloc (ext_refl _) _) _
  have bA := Boxed.new (w.alloc (.cells (exCells op v rel col n s q t.length c).toArray 26)) 4 (.bool false)
  have E1 := E0.on (ext_alloc (ext_refl _) (.cells #[.bool false] 4))
  obtain ⟨W, hW⟩ : ∃ W, W = (w.alloc (.cells (exCells op v rel col n s q t.length c).toArray 26)).alloc (.cells #[.bool false] 4) := ⟨_, rfl⟩
  rw [← hW] at E1 B0 bA
  rw [World.size_alloc] at bA
  have HW := Lib.hid hW
  have HB := Lib.hid B0
  have HE := Lib.hid E1
  have HBA := Lib.hid bA
  clear hG hW B0 E0 bA
  obtain ⟨lt, c0, c1, c2, c3, c4, c5, c6, c7, c8⟩ := E1
  refine (callsIn_wide (n := 9)).1 (callsIn_of_wp_marks Tryz.func8 rfl trivial ?_ rfl)
  simp only [Tryz.ntmps8, List.size_toArray, List.length_cons, List.length_nil, Nat.reduceAdd, Nat.reduceSub, Array.replicate_succ, Array.replicate_zero, List.push_toArray, List.append_toArray, List.nil_append, List.cons_append]
  gi_wp2_with fail
  rw [← HW.out]
  refine ⟨trivial, (callsIn_wide.2 (dright_any _ _ W (ExM.ext HB.out _ _ HX.out) (HG.out.on HB.out))).mono ?_⟩
  clear HW
  rintro e X ⟨he, hbX⟩
  have HBX := Lib.hid (HB.out.trans (hbX.mono HB.out.size))
  have EX := HE.out.on hbX
  have bX : Boxed X (w.heap.size + 1) 4 (.bool false) := (hbX.block _ HBA.out.lt).trans HBA.out
  have HEX := Lib.hid EX
  obtain ⟨g, hg⟩ : ∃ g, g = w.heap.size := ⟨_, rfl⟩
  rw [← hg] at EX HEX bX ⊢
  have HGW := Lib.hid hg
  obtain ⟨A, hA⟩ : ∃ A, A = g + 1 := ⟨_, rfl⟩
  rw [← hA] at bX ⊢
  have HBA := Lib.hid bX
  have HAG := Lib.hid hA
  have cA := bX.cell
  have fA := bX.frozen
  have lA := bX.lt
  clear hbX c0 c1 c2 c3 c4 c5 c6 c7 c8 lt HB HE hg hA bX
  obtain ⟨lt, c0, c1, c2, c3, c4, c5, c6, c7, c8⟩ := EX
  have HAw := Lib.hid (show w.heap.size < A by rw [HAG.out, HGW.out]; omega)
  cases hs : rightE (.mk op v rel col n s t) with
  | false =>
    have HQ := Lib.hid hs
    rw [hs] at he
    clear hs
    subst he
    gi_wp2_with fail
    have bN := HBA.out.set (.bool false)
    have kB : Below w.heap.size w (X.setCell ⟨A, 0, none⟩ (.bool false)) := HBX.out.setCell (p := ⟨A, 0, none⟩) (by have := HAw.out; show w.heap.size ≤ A; omega) _
    exact ⟨.bool false, by simp [results, Tryz.results8, go_sem, cA], by rw [HQ.out]; rfl, kB⟩
  | true =>
    have HP := Lib.hid (rightE_parts hs)
    have HQ := Lib.hid hs
    rw [hs] at he
    clear hs
    subst he
    gi_wp2_with fail
    refine ⟨trivial, (parts_any 8 op v rel col n s q t.length c _).mono ?_⟩
    rintro e Z ⟨rfl, hZ⟩
    obtain ⟨B, hB⟩ : ∃ B, B = X.heap.size := ⟨_, rfl⟩
    rw [← hB]
    have bS : Boxed Z A 4 (.bool false) := by rw [hZ]; exact HBA.out.alloc _
    have bP : Blk Z B 26 (exCells op v rel col n s q t.length c).toArray := by rw [hZ, hB]; exact Blk.new _ _ _
    have zZ : Z.heap.size = B + 1 := by rw [hZ, World.size_alloc, hB]
    have bZ : Below w.heap.size w Z := by rw [hZ]; exact ext_alloc HBX.out _
    have hAB : A < B := by rw [hB]; exact HBA.out.lt
    have HBZ := Lib.hid bZ
    have HXw := Lib.hid HX.out
    have HAB := Lib.hid hAB
    clear hZ hB c0 c1 c2 c3 c4 c5 c6 c7 c8 lt HBX HEX HBA cA fA lA bZ
    gi_wp2_with fail
    refine wpIn_rangeFunc_ownH rfl (by omega) (gf := 40) (lb := #[.pointer (some ⟨B, 0, none⟩)]) rfl trivial (enters_of Tryz.func40 (by kernel_rfl) rfl)
      (seq_any (fun k => k = A) _ B _ _ w Z HX.out HP.out.1 (CF.of HBZ.out) HBZ.out.size (fun g hg e => by have := HAw.out; omega) (fun k hk e => by omega) (by omega) (fun k u hu => bP.cell (by simpa using hu)))
      (fun h k => h.trans k) (fun W l o o' _ hl hc _ => KC.put W l o o' hl hc) (Below.refl _ _) (fun _ => rfl)
      (fun pre W => (Boxed W A 4 (.bool false) ∧ (pre.map Nd.hd).any arithH = false) ∧ Below w.heap.size w W)
      (fun cc pre W => (Boxed W A 4 (.bool false) ∧ cc = .ret ∧ (pre.map Nd.hd).any arithH = true) ∧ Below w.heap.size w W)
      (OwnFrom.and (OwnFrom.and (Own.from (boxed_own _ _ _) _) (ownFrom_pure _ _)) (ownFrom_below (Nat.le_refl _) HBZ.out.size))
      (fun cc => OwnFrom.and (OwnFrom.and (Own.from (boxed_own _ _ _) _) (ownFrom_pure _ _)) (ownFrom_below (Nat.le_refl _) HBZ.out.size))
      ⟨⟨bS, rfl⟩, HBZ.out⟩
      (fun x a' W => ∃ Bx, A < Bx ∧ Blk W Bx 26 x.cells ∧ a' = { tmps := #[.agg (exCells op v rel col n s q t.length c).toArray, .pointer (some ⟨g, 0, none⟩), .pointer (some ⟨A, 0, none⟩), .pointer (some ⟨Bx, 0, none⟩), .agg (exCells op v rel col n s q t.length c).toArray, .bool true, .bool false, .agg (exCells op v rel col n s q t.length c).toArray, .func (.func 40) #[] #[.pointer (some ⟨B, 0, none⟩)], .agg x.cells, undef, undef, undef], defers := [] })
      (fun x a' _ X Y row hs hg hr => by obtain ⟨Bx, h1, h2, h3⟩ := hs; exact ⟨Bx, h1, h2.kept hg (fun r e => (hr r e).2), h3⟩)
      ?assign ?body ?done ?stop
    case assign =>
      rintro l pre ⟨⟨op1, v1, rel1, col1, n1, s1, len1⟩, q1, c1, ok1⟩ W K ⟨⟨bS1, hn1⟩, hB1⟩ hK
      have h1 := bS1.lt
      have HK := Lib.hid hK
      have HN1 := Lib.hid hn1
      clear hK hn1
      dsimp only [Nd.encs, Nd.cells]
      gi_wp2
      exact HK.out _ _ ((KeepsOthers.alloc _ _).from _) (KC.alloc _ _ _) ⟨⟨bS1.alloc _, HN1.out⟩, ext_alloc hB1 _⟩ ⟨W.heap.size, h1, Blk.new W _ _, rfl⟩
    case body =>
      rintro l pre ⟨⟨op1, v1, rel1, col1, n1, s1, len1⟩, q1, cc1, ok1⟩ a' W hl - ⟨⟨bS1, hn1⟩, hB1⟩ ⟨Bx, hBx, bX, rfl⟩ -
      dsimp only [Nd.encs, Nd.cells] at bX ok1 ⊢
      obtain ⟨lt, c0, c1, c2, c3, c4, c5, c6, c7, c8⟩ := bX.eb
      have cA := bS1.cell
      have fA := bS1.frozen
      have lA := bS1.lt
      have HN1 := Lib.hid (show List.any ((pre ++ [(⟨⟨op1, v1, rel1, col1, n1, s1, len1⟩, q1, cc1, ok1⟩ : Nd)]).map Nd.hd) arithH = (decide (4 ≤ op1) && decide (op1 ≤ 8)) by
        rw [List.map_append, List.any_append, hn1, Bool.false_or]
        show (arithH _ || false) = _
        rw [Bool.or_false]
        rfl)
      clear hn1
      gi_wp2_with fail
      refine ⟨trivial, (CallsIn.inRound l (callsIn_wide.2 (between_any 4 op1 8 _))).mono ?_⟩
      rintro e Y ⟨he, rfl⟩
      cases hb : (decide (4 ≤ op1) && decide (op1 ≤ 8)) with
      | false =>
        rw [hb] at he HN1
        clear hb
        subst he
        gi_wp2_with fail
        exact ⟨KeepsFrom.refl _ _, KC.refl _ _, ⟨bS1, HN1.out⟩, hB1⟩
      | true =>
        rw [hb] at he HN1
        clear hb
        subst he
        have bN := bS1.set (.bool false)
        have kB : Below w.heap.size w (Y.setCell ⟨A, 0, none⟩ (.bool false)) := hB1.setCell (p := ⟨A, 0, none⟩) (by have := HAw.out; show w.heap.size ≤ A; omega) _
        have HF := Lib.hid (And.intro bN kB)
        clear bN kB
        gi_wp2_with fail
        exact ⟨(KeepsOthers.setCell _ _ _).from _, ⟨HF.out.1, rfl, HN1.out⟩, HF.out.2⟩
    case done =>
      rintro D ys W hD hm ⟨⟨bS1, hn1⟩, hB1⟩ hK
      have cA := bS1.cell
      have fA := bS1.frozen
      have lA := bS1.lt
      have bN := bS1.set (.bool true)
      have kB : Below w.heap.size w (W.setCell ⟨A, 0, none⟩ (.bool true)) := hB1.setCell (p := ⟨A, 0, none⟩) (by have := HAw.out; show w.heap.size ≤ A; omega) _
      have hK2 : (W.setCell ⟨A, 0, none⟩ (.bool true)).heap[D]? = some (.deferred (some [])) := (KeepsOthers.setCell W ⟨A, 0, none⟩ (.bool true)).same D _ hK rfl
      have HF := Lib.hid (And.intro bN (And.intro kB hK2))
      have HD := Lib.hid (And.intro hD (And.intro hm hn1))
      clear bN kB hK hK2 hD hm hn1
      gi_wp2_with fail
      refine ⟨by simp, .inl ⟨_, _, rfl, run_takeDeferred HF.out.2.2, ?_⟩⟩
      have bE := (boxed_put (o' := .deferred none) HF.out.1 HF.out.2.2 rfl).cell
      have kE := HF.out.2.1.trans (belowK_b (w := w) (Nat.le_refl _) (W.setCell ⟨A, 0, none⟩ (.bool true)) D _ (.deferred none) (Nat.le_trans HBZ.out.size HD.out.1) HF.out.2.2 rfl rfl)
      exact ⟨.bool true, by simp [results, Tryz.results8, go_sem, bE], by rw [HQ.out, safe_nodes, ← HD.out.2.1, HD.out.2.2]; rfl, kE⟩
    case stop =>
      rintro D cc pre W hD hm ⟨⟨bS1, rfl, hn1⟩, hB1⟩ hK
      have cA := bS1.cell
      have HF := Lib.hid (And.intro hD (And.intro hm (And.intro hn1 hK)))
      clear hD hm hn1 hK
      gi_wp2_with fail
      refine ⟨by simp, .inl ⟨_, _, rfl, run_takeDeferred HF.out.2.2.2, ?_⟩⟩
      have bE := (boxed_put (o' := .deferred none) bS1 HF.out.2.2.2 rfl).cell
      have kE := hB1.trans (belowK_b (w := w) (Nat.le_refl _) W D _ (.deferred none) (Nat.le_trans HBZ.out.size HF.out.1) HF.out.2.2.2 rfl rfl)
      exact ⟨.bool false, by simp [results, Tryz.results8, go_sem, bE], by rw [HQ.out, safe_nodes, any_prefix HF.out.2.1 HF.out.2.2.1]; rfl, kE⟩
open Go.RowKit
section
variable {α : Type} {cells : α → List Value} {sz : Nat}
theorem flat_len (hcl : ∀ x, (cells x).length = sz) (l : List α) : (l.flatMap cells).length = l.length * sz := by
  induction l with
  | nil => simp
  | cons a l ih => rw [List.flatMap_cons, List.length_append, hcl, ih, List.length_cons, Nat.add_mul]; omega
theorem flat_get (hcl : ∀ x, (cells x).length = sz) (h0 : 0 < sz) : ∀ (l : List α) (j : Nat) (u : Value), (l.flatMap cells)[j]? = some u → ∃ x, l[j / sz]? = some x ∧ (cells x)[j % sz]? = some u
  | [], j, u, h => by simp at h
  | a :: l, j, u, h => by
    rw [List.flatMap_cons] at h
    by_cases hj : j < sz
    · rw [List.getElem?_append_left (by rw [hcl]; exact hj)] at h
      exact ⟨a, by rw [Nat.div_eq_of_lt hj]; rfl, by rw [Nat.mod_eq_of_lt hj]; exact h⟩
    · rw [List.getElem?_append_right (by rw [hcl]; omega), hcl] at h
      obtain ⟨x, h1, h2⟩ := flat_get hcl h0 l (j - sz) u h
      have hjs : j = (j - sz) + sz := by omega
      refine ⟨x, ?_, ?_⟩
      · rw [hjs, Nat.add_div_right _ h0]
        simpa using h1
      · rw [hjs, Nat.add_mod_right]
        exact h2
theorem flat_at (hcl : ∀ x, (cells x).length = sz) : ∀ (l : List α) (j k : Nat) (x : α) (u : Value), l[j]? = some x → (cells x)[k]? = some u → (l.flatMap cells)[j * sz + k]? = some u
  | [], j, k, x, u, h, _ => by simp at h
  | a :: l, 0, k, x, u, h, hk => by
    simp at h
    subst h
    have hl := (List.getElem?_eq_some_iff.1 hk).1
    rw [List.flatMap_cons, Nat.zero_mul, Nat.zero_add, List.getElem?_append_left hl]
    exact hk
  | a :: l, j + 1, k, x, u, h, hk => by
    rw [List.flatMap_cons, List.getElem?_append_right (by rw [hcl, Nat.add_mul]; omega), hcl, show (j + 1) * sz + k - sz = j * sz + k by rw [Nat.add_mul]; omega]
    exact flat_at hcl l j k x u (by simpa using h) hk
def OwnF (w : World) (base : Nat) (E : TypeId) (sz : Nat) (cells : α → List Value) (v : Value) (l : List α) : Prop := w.ownsRow base E sz v l.length (l.flatMap cells)
theorem OwnF.nil (w : World) (base : Nat) (E : TypeId) : OwnF w base E sz cells (.slice none 0 0) [] := World.ownsRow_nil _ _ _ _
theorem OwnF.kept {S : Nat → Prop} {w w' : World} {base : Nat} {E : TypeId} {v : Value} {l : List α} (h : OwnF w base E sz cells v l) (o : Out S w w') (hS : ∀ k, S k → v.ownBlock ≠ some k) : OwnF w' base E sz cells v l := by
  obtain ⟨h1, h2⟩ := h
  refine ⟨h1, ?_⟩
  rcases h2 with h2 | ⟨g, cap, cur, hv, hg, hh, r⟩
  · exact .inl h2
  · have hlt : g < w.heap.size := by
      rcases Nat.lt_or_ge g w.heap.size with h | h
      · exact h
      · rw [Array.getElem?_eq_none h] at hh; cases hh
    exact .inr ⟨g, cap, cur, hv, hg, by rw [o.block g hlt (fun k => hS g k (by rw [hv]; rfl))]; exact hh, r⟩
theorem OwnF.later {w w' : World} {base : Nat} {E : TypeId} {v : Value} {l : List α} (h : OwnF w base E sz cells v l) (hb : Below w.heap.size w w') : OwnF w' base E sz cells v l := h.kept (Out.of (S := fun _ => False) hb) (fun _ h => h.elim)
theorem OwnF.base_le {w : World} {b b' : Nat} {E : TypeId} {v : Value} {l : List α} (h : OwnF w b E sz cells v l) (hb : b' ≤ b) : OwnF w b' E sz cells v l := by
  obtain ⟨h1, h2⟩ := h
  refine ⟨h1, ?_⟩
  rcases h2 with h2 | ⟨g, cap, cur, hv, hg, r⟩
  · exact .inl h2
  · exact .inr ⟨g, cap, cur, hv, Nat.le_trans hb hg, r⟩
theorem OwnF.arr {w : World} {base : Nat} {E : TypeId} {v : Value} {l : List α} (hcl : ∀ x, (cells x).length = sz) (h : OwnF w base E sz cells v l) :
    ∃ q c, v = .slice q l.length c ∧ l.length ≤ c ∧ c ≤ 9223372036854775807 ∧ (∀ g off, q = some ⟨g, off, none⟩ → off = 0 ∧ base ≤ g ∧ g < w.heap.size ∧ ∀ o, w.frozen? ⟨g, o, none⟩ = false) ∧ ArrA base w.heap.size q sz l (fun g o x => ∀ (k : Nat) u, (cells x)[k]? = some u → w.cell? ⟨g, o + k, none⟩ = some u) := by
  obtain ⟨h1, h2⟩ := h
  rcases h2 with ⟨rfl, h0⟩ | ⟨g, cap, cur, rfl, hb, hg, hn, hm, hc, ht⟩
  · exact ⟨none, 0, by rw [h0], by omega, by omega, (fun g off h => by cases h), fun i hi => by omega⟩
  · have hlt : g < w.heap.size := by
      rcases Nat.lt_or_ge g w.heap.size with h | h
      · exact h
      · rw [Array.getElem?_eq_none h] at hg; cases hg
    refine ⟨some ⟨g, 0, none⟩, cap, rfl, hn, by unfold maxLen at hm; omega, fun g' off h => ?_, fun i hi => ⟨g, 0, rfl, hb, hlt, fun j x hj k u hu => ?_⟩⟩
    · obtain ⟨rfl, rfl⟩ : g = g' ∧ 0 = off := by simpa using h
      exact ⟨rfl, hb, hlt, fun o => by rw [Lib.frozen_of_heap hg]; try simp⟩
    · have hf := flat_at hcl l j k x u hj hu
      have hjl : j * sz + k < l.length * sz := by
        have := (List.getElem?_eq_some_iff.1 hf).1
        rwa [flat_len hcl] at this
      rw [Lib.cell_of_heap hg, Nat.zero_add]
      have := congrArg (fun l => l[j * sz + k]?) ht
      simp only [List.getElem?_take, if_pos hjl] at this
      rw [← Array.getElem?_toList, this]
      exact hf
theorem wp_append_flat {w : World} {ops : Array Oper} {rest : List Oper} {o : Oper} {a : Act} {Q : Exit → Act → World → Prop} (hgd : o.guard = none) (s x : Operand) (T E : TypeId) (ho : o.op = .call { callee := .builtin .append, args := #[s, x], argTypes := #[T, T] })
    (hT : Tryz.prog.underlying T = some (.slice E)) (z : Value) (bytes : Nat) (hI : (Tryz.prog.info? E).map (fun i => (i.zero, i.size, i.bytes)) = some (some z, sz, bytes)) (hzs : z.cells.size = sz) (h0 : 0 < sz)
    (hcl : ∀ x : α, (cells x).length = sz) (h1 : ∀ (x : α) (u : Value), u ∈ cells x → u.oneCell' = true)
    (base : Nat) (v : Value) (l : List α) (hs : a.eval s = v) (hown : OwnF w base E sz cells v l) (p : Option Addr) (n c : Nat) (m : List α) (hn : n = m.length) (hx : a.eval x = .slice p n c)
    (lo hi : Nat) (hR : ArrA lo hi p sz m (fun g o x => ∀ (k : Nat) u, (cells x)[k]? = some u → w.cell? ⟨g, o + k, none⟩ = some u)) (hlen : l.length + m.length ≤ maxLen) (hbytes : (l.length + m.length) * bytes ≤ 140737488355328) (hbase : base ≤ w.heap.size)
    (h : ∀ v' w', OwnF w' base E sz cells v' (l ++ m) → Below base w w' → Out (fun k => v.ownBlock = some k) w w' → wpList Tryz.prog ops Q rest (a.put o.dst v') w') : wpList Tryz.prog ops Q (o :: rest) a w := by
  subst hn
  obtain ⟨i0, hi0, hz0, hz1, hz2⟩ := info_parts hI
  have go : ∀ ad : Addr, p = some ad → (∀ (j : Nat) (u : Value), (m.flatMap cells)[j]? = some u → w.cell? (ad.add j) = some u) → wpList Tryz.prog ops Q (o :: rest) a w := by
    intro ad hp hcells
    subst hp
    refine wpList_append_own w hgd s x T ho base E i0 z sz bytes hT hi0 hz0 hz1 hz2 hzs h0 v l.length _ hs hown ad m.length c (m.flatMap cells) hx (flat_len hcl m) hcells ?_ hlen hbytes hbase ?_
    · intro u hu
      obtain ⟨x, _, hx⟩ := List.mem_flatMap.1 hu
      exact h1 x u hx
    · intro v' w' h2 h3 _
      refine h v' w' ?_ ((Below.refl _ _).grown h3 hbase fun k hk => (hown.lt _ hk).1) (Out.grown h3 fun k hk => hk)
      unfold OwnF
      rw [List.length_append, List.flatMap_append]
      exact h2
  by_cases hm : 0 < m.length
  · obtain ⟨b, off, rfl, _, _, hc⟩ := hR 0 hm
    refine go _ rfl fun j u hj => ?_
    obtain ⟨y, hy, hk⟩ := flat_get hcl h0 m j u hj
    have := hc (j / sz) y hy (j % sz) u hk
    have e : off + j / sz * sz + j % sz = off + j := by rw [Nat.add_assoc, Nat.div_add_mod']
    rw [e] at this
    unfold Addr.add
    split
    · rename_i hj0; subst hj0; exact this
    · exact this
  · obtain rfl : m = [] := List.length_eq_zero_iff.1 (by omega)
    cases p with
    | none =>
      obtain ⟨q, cap, rfl, hcap, _, _⟩ := hown.arr hcl
      have hr := run_append_nothing (P := Tryz.prog) w T T o.type E i0 hT hi0 q l.length cap hcap (.slice none 0 c) ⟨.inl ⟨_, hT⟩, fun _ => rfl, run_firstCells_none w _ 0 0 c, run_firstCells_none w.drew _ 0 0 c, by simp, by simp⟩
      refine wpList_plain hgd fun K hK => ?_
      unfold Oper.wp execOp
      simp only [ho, resolve, invoke, builtin, Sem.run_bind, Sem.run_pure, Result.andThen_ok, List.map_toArray, List.map_cons, List.map_nil, hs, hx, List.length_nil, hr]
      exact hK _ _ (h _ _ (by simpa using hown) (Below.refl _ _) (Out.refl _ _))
    | some ad => exact go ad rfl (fun j u hj => by simp at hj)
end
theorem one_block {W : World} {α : Type} {cells : α → List Value} {sz : Nat} (_ : ∀ x, (cells x).length = sz) (E : TypeId) (cs : Array Value) (x : α) (hx : cs.toList = cells x) (b : Nat) (hb : b = W.heap.size) :
    ArrA 0 (b + 1) (some ⟨b, 0, none⟩) sz [x] (fun g o r => ∀ (k : Nat) u, (cells r)[k]? = some u → (W.alloc (.cells cs E)).cell? ⟨g, o + k, none⟩ = some u) := fun j hj => ⟨b, 0, rfl, Nat.zero_le _, by omega, fun n r hr k u hk => by
  subst hb
  have hn : n = 0 := by have := (List.getElem?_eq_some_iff.1 hr).1; simp at this; omega
  subst hn
  simp only [List.getElem?_cons_zero, Option.some.injEq] at hr
  subst hr
  rw [Lib.cell_of_heap (heap_alloc_new W _)]
  rw [← hx] at hk
  simpa using hk⟩
section
variable {α : Type} {cells : α → List Value} {sz : Nat}
theorem run_append_flat (w : World) (T E ty : TypeId) (hT : Tryz.prog.underlying T = some (.slice E)) (z : Value) (bytes : Nat) (hI : (Tryz.prog.info? E).map (fun i => (i.zero, i.size, i.bytes)) = some (some z, sz, bytes)) (hzs : z.cells.size = sz) (h0 : 0 < sz)
    (hcl : ∀ x : α, (cells x).length = sz) (h1 : ∀ (x : α) (u : Value), u ∈ cells x → u.oneCell' = true)
    (base : Nat) (v : Value) (l : List α) (hown : OwnF w base E sz cells v l) (p : Option Addr) (n c : Nat) (m : List α) (hn : n = m.length)
    (lo hi : Nat) (hR : ArrA lo hi p sz m (fun g o x => ∀ (k : Nat) u, (cells x)[k]? = some u → w.cell? ⟨g, o + k, none⟩ = some u)) (hlen : l.length + m.length ≤ maxLen) (hbytes : (l.length + m.length) * bytes ≤ 140737488355328) (hbase : base ≤ w.heap.size) :
    ∃ v' w', (Builtin.append_ #[T, T] ty #[v, .slice p n c]).run Tryz.prog w = .ok v' w' ∧ OwnF w' base E sz cells v' (l ++ m) ∧ Below base w w' ∧ Out (fun k => v.ownBlock = some k) w w' ∧ (v'.ownBlock = v.ownBlock ∨ v'.ownBlock = some w.heap.size) := by
  subst hn
  obtain ⟨i0, hi0, hz0, hz1, hz2⟩ := info_parts hI
  have go : ∀ ad : Addr, p = some ad → (∀ (j : Nat) (u : Value), (m.flatMap cells)[j]? = some u → w.cell? (ad.add j) = some u) → ∃ v' w', (Builtin.append_ #[T, T] ty #[v, .slice p m.length c]).run Tryz.prog w = .ok v' w' ∧ OwnF w' base E sz cells v' (l ++ m) ∧ Below base w w' ∧ Out (fun k => v.ownBlock = some k) w w' ∧ (v'.ownBlock = v.ownBlock ∨ v'.ownBlock = some w.heap.size) := by
    intro ad hp hcells
    subst hp
    obtain ⟨v', w', hr, h2, h3, _, h5⟩ := run_append_own_at (P := Tryz.prog) w base T ty E i0 z sz bytes hT hi0 hz0 hz1 hz2 hzs h0 v l.length _ hown ad m.length c (m.flatMap cells) (flat_len hcl m) hcells (fun u hu => by
      obtain ⟨x, _, hx⟩ := List.mem_flatMap.1 hu
      exact h1 x u hx) hlen hbytes hbase
    refine ⟨v', w', hr, ?_, (Below.refl _ _).grown h3 hbase fun k hk => (hown.lt _ hk).1, Out.grown h3 fun k hk => hk, h5⟩
    unfold OwnF
    rw [List.length_append, List.flatMap_append]
    exact h2
  by_cases hm : 0 < m.length
  · obtain ⟨b, off, rfl, _, _, hc⟩ := hR 0 hm
    refine go _ rfl fun j u hj => ?_
    obtain ⟨y, hy, hk⟩ := flat_get hcl h0 m j u hj
    have := hc (j / sz) y hy (j % sz) u hk
    have e : off + j / sz * sz + j % sz = off + j := by rw [Nat.add_assoc, Nat.div_add_mod']
    rw [e] at this
    unfold Addr.add
    split
    · rename_i hj0; subst hj0; exact this
    · exact this
  · obtain rfl : m = [] := List.length_eq_zero_iff.1 (by omega)
    cases p with
    | none =>
      obtain ⟨q, cap, rfl, hcap, _, _⟩ := hown.arr hcl
      have hr := run_append_nothing (P := Tryz.prog) w T T ty E i0 hT hi0 q l.length cap hcap (.slice none 0 c) ⟨.inl ⟨_, hT⟩, fun _ => rfl, run_firstCells_none w _ 0 0 c, run_firstCells_none w.drew _ 0 0 c, by simp, by simp⟩
      exact ⟨_, _, hr, by simpa using hown, Below.refl _ _, Out.refl _ _, .inl rfl⟩
    | some ad => exact go ad rfl (fun j u hj => by simp at hj)
theorem flat_set (hcl : ∀ x, (cells x).length = sz) : ∀ (l : List α) (j k : Nat) (x x' : α) (u : Value), l[j]? = some x → k < sz → cells x' = (cells x).set k u → (l.set j x').flatMap cells = (l.flatMap cells).set (j * sz + k) u
  | [], j, k, x, x', u, h, _, _ => by simp at h
  | y :: l, 0, k, x, x', u, h, hk, hx => by
    simp at h
    subst h
    rw [List.set_cons_zero, List.flatMap_cons, List.flatMap_cons, hx, Nat.zero_mul, Nat.zero_add, List.set_append_left _ _ (by rw [hcl]; exact hk)]
  | y :: l, j + 1, k, x, x', u, h, hk, hx => by
    rw [List.set_cons_succ, List.flatMap_cons, List.flatMap_cons, flat_set hcl l j k x x' u (by simpa using h) hk hx, List.set_append_right _ _ (by rw [hcl, Nat.add_mul]; omega), hcl]
    congr 2
    rw [Nat.add_mul]
    omega
theorem OwnF.setc {w : World} {b : Nat} {E : TypeId} {g n c : Nat} {l : List α} (hcl : ∀ x, (cells x).length = sz) (h : OwnF w b E sz cells (.slice (some ⟨g, 0, none⟩) n c) l) {j k : Nat} {x x' : α} {u : Value} (hj : l[j]? = some x) (hk : k < sz) (hx : cells x' = (cells x).set k u) :
    OwnF (w.setCell ⟨g, j * sz + k, none⟩ u) b E sz cells (.slice (some ⟨g, 0, none⟩) n c) (l.set j x') := by
  obtain ⟨h1, h2⟩ := h
  have hf := flat_set hcl l j k x x' u hj hk hx
  have hjl := (List.getElem?_eq_some_iff.1 hj).1
  refine ⟨by rw [flat_len hcl], ?_⟩
  rcases h2 with ⟨h2, _⟩ | ⟨g', cap, cur, hv, hg, hh, hn, hm, hc, ht⟩
  · cases h2
  · simp only [Value.slice.injEq, Option.some.injEq, Addr.mk.injEq, and_true] at hv
    obtain ⟨rfl, rfl, rfl⟩ := hv
    rw [List.length_set]
    refine .inr ⟨g, c, cur.setIfInBounds (j * sz + k) u, rfl, hg, ?_, hn, hm, by simpa using hc, ?_⟩
    · rw [setCell_eq_setRow w g _ cur _ _ _ hh]
      exact setRow_heap w g _ _ _ _ hh
    · rw [hf, ← ht, Array.toList_setIfInBounds, List.take_set]
theorem OwnF.cellAt {w : World} {b : Nat} {E : TypeId} {g n c : Nat} {l : List α} (hcl : ∀ x, (cells x).length = sz) (h : OwnF w b E sz cells (.slice (some ⟨g, 0, none⟩) n c) l) {j k : Nat} {x : α} {u : Value} (hj : l[j]? = some x) (hk : (cells x)[k]? = some u) :
    w.cell? ⟨g, j * sz + k, none⟩ = some u ∧ ∀ o, w.frozen? ⟨g, o, none⟩ = false := by
  obtain ⟨q, c', e, _, _, hf, ha⟩ := h.arr hcl
  simp only [Value.slice.injEq] at e
  obtain ⟨rfl, -, -⟩ := e
  obtain ⟨g', off, e, _, _, hc⟩ := ha j (List.getElem?_eq_some_iff.1 hj).1
  obtain ⟨rfl, rfl⟩ : g = g' ∧ 0 = off := by simpa using e
  refine ⟨?_, (hf g 0 rfl).2.2.2⟩
  have := hc j x hj k u hk
  rwa [Nat.zero_add] at this
end
end Go.Proofs.YtklgoajgchfmeaaGreatDoor
