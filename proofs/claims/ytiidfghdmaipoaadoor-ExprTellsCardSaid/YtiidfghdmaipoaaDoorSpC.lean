/- The developers' Split: the function that calls itself, and Split. -/
import Derived.Test.YtiidfghdmaipoaaDoorSpB
import Derived.Test.YtiidfghdmaipoaaDoorEvQ
import Derived.Deep.RegionLaw
namespace Go.Proofs.YtiidfghdmaipoaaDoor
open Go.RowKit Go.Deep
set_option maxRecDepth 100000

/-- What Split's function holds: the parts gathered so far, itself. -/
structure SS (W : World) (b C R : Nat) (v : Value) (L : List Ex) : Prop where
  cC : W.cell? ⟨C, 0, none⟩ = some v
  fC : ∀ o, W.frozen? ⟨C, o, none⟩ = false
  cR : W.cell? ⟨R, 0, none⟩ = some (.func (.func 27) #[] #[.pointer (some ⟨C, 0, none⟩), .pointer (some ⟨R, 0, none⟩)])
  lC : C < b
  lR : R < b
  ne : R ≠ C
  bs : b ≤ W.heap.size
  sl : ∃ K : List RawE, OwnE W b v K ∧ K.length = L.length ∧ ∀ (j : Nat) (r : RawE) (x : Ex), K[j]? = some r → L[j]? = some x → ExMP W (fun k => b ≤ k ∧ v.ownBlock ≠ some k) x r.cells
theorem SS.on {W W' : World} {b C R : Nat} {v : Value} {L : List Ex} (h : SS W b C R v L) (hb : Below W.heap.size W W') : SS W' b C R v L := by
  obtain ⟨h1, h2, h3, h4, h5, h6, h7, K, h8, h9, h10⟩ := h
  exact ⟨(hb.cell (p := ⟨C, 0, none⟩) (by show C < _; omega)).trans h1, fun o => (hb.frozen (p := ⟨C, o, none⟩) (by show C < _; omega)).trans (h2 o), (hb.cell (p := ⟨R, 0, none⟩) (by show R < _; omega)).trans h3, h4, h5, h6, Nat.le_trans h7 hb.size, K, h8.later hb, h9, fun j r x hr hx => (h10 j r x hr hx).below hb⟩
/-- .. and one part more: the slice has grown by one cell's room (at N), which is written, as is the variable, in whatever order (to M). -/
theorem SS.push {D N M : World} {b C R : Nat} {v v' : Value} {L : List Ex} {K : List RawE} {gN cN : Nat} {x : Ex} {r' : RawE} (h : SS D b C R v L) (hK : K.length = L.length)
    (hD : D.heap.size ≤ N.heap.size) (hold : ∀ (j : Nat) (r : RawE) (x : Ex), K[j]? = some r → L[j]? = some x → ExMP N (fun k => b ≤ k ∧ v'.ownBlock ≠ some k) x r.cells)
    (hnew : ExMP N (fun k => b ≤ k ∧ v'.ownBlock ≠ some k) x r'.cells) (hv : v' = .slice (some ⟨gN, 0, none⟩) (K.length + 1) cN) (hg : b ≤ gN) (hNo : Out (fun k => b ≤ k) D N)
    (o : Out (fun k => k = C ∨ k = gN) N M) (hc : M.cell? ⟨C, 0, none⟩ = some v') (hf : ∀ o, M.frozen? ⟨C, o, none⟩ = false) (hM : OwnE M b v' (K ++ [r'])) : SS M b C R v' (L ++ [x]) := by
  obtain ⟨h1, h2, h3, h4, h5, h6, h7, -⟩ := h
  have hRN : N.cell? ⟨R, 0, none⟩ = some _ := (World.cell?_of_block (w := D) (hNo.block R (by omega) (by omega))).trans h3
  have hP : ∀ (y : Ex) (cs : List Value), ExMP N (fun k => b ≤ k ∧ v'.ownBlock ≠ some k) y cs → ExMP M (fun k => b ≤ k ∧ v'.ownBlock ≠ some k) y cs := fun y cs hy => ExMP.on o.size (fun k hk hkw => o.block k hkw (fun e => by
    rcases e with e | e
    · omega
    · refine hk.2 ?_
      rw [hv, e]
      rfl)) (fun _ h _ => h) y cs hy
  refine ⟨hc, hf, (World.cell?_of_block (w := N) (o.block R (by omega) (by omega))).trans hRN, h4, h5, h6, Nat.le_trans h7 (Nat.le_trans hD o.size), K ++ [r'], hM, by simp [hK], fun j r y hr hy => ?_⟩
  by_cases hj : j < K.length
  · rw [List.getElem?_append_left hj] at hr
    rw [List.getElem?_append_left (by omega)] at hy
    exact hP y _ (hold j r y hr hy)
  · have hjk : j = K.length := by
      have := (List.getElem?_eq_some_iff.1 hr).1
      simp at this
      omega
    rw [hjk, List.getElem?_append_right (Nat.le_refl _), Nat.sub_self] at hr
    rw [hjk, hK, List.getElem?_append_right (Nat.le_refl _), Nat.sub_self] at hy
    simp at hr hy
    subst hr hy
    exact hP _ _ hnew

theorem cell_set_here {W : World} {p : Addr} {u u' : Value} (h : W.cell? p = some u) : (W.setCell p u').cell? p = some u' := by simp [go_sem, h]
/-- A call of a function by its contract, at a step of a region that draws its order. -/
theorem step_call {w : World} {ops : Array Oper} {o : Oper} {a : Act} {K : Act → World → Prop} {Q : Exit → Act → World → Prop} {R : Prop} (hgd : o.guard = none) (f : Nat) (x : Operand) (ts : Array TypeId) (ho : o.op = .call { callee := .value (.func f), args := #[x], argTypes := ts }) (u : Value) (hx : a.eval x = u)
    (hcf : (callFunc f #[u]).run Tryd.prog w = .ok (.enter f #[u]) w) (h : Calls Tryd.prog f #[u] w (fun e w' => ∃ v, e = .returned v ∧ K (a.put o.dst v) w')) : if Region.wanted o (yielded ops a.tmps) = true then Oper.wp Tryd.prog o a w K Q else R := by
  have hw : Region.wanted o (yielded ops a.tmps) = true := by simp [Region.wanted, hgd]
  rw [if_pos hw]
  unfold Oper.wp execOp
  simp only [ho, resolve, invoke, Sem.run_bind, List.map_toArray, List.map_cons, List.map_nil, hx]
  have e : a.eval (.func f) = .func (.func f) #[] #[] := rfl
  rw [e]
  have e2 : (Deferred.ofValue (.func (.func f) #[] #[]) #[u]).run Tryd.prog w = .ok ⟨.fn (.func f) #[], #[u]⟩ w := by
    simp [Deferred.ofValue, go_sem]
  simp only [e2, Result.andThen_ok, Array.append_empty]
  rw [hcf]
  refine h.mono ?_
  rintro e w' ⟨v, rfl, hk⟩
  exact hk
theorem Tryd.enterCopied (vals : Array Value) (w : World) : (callFunc 28 vals).run Tryd.prog w = .ok (.enter 28 vals) w := by kernel_rfl
theorem one_later {α : Type} {cells : α → List Value} {sz lo hi : Nat} {W W' : World} {q : Option Addr} {l : List α} (hb : Below W.heap.size W W') (h : ArrA lo hi q sz l (fun g o r => ∀ (k : Nat) u, (cells r)[k]? = some u → W.cell? ⟨g, o + k, none⟩ = some u)) : ArrA lo hi q sz l (fun g o r => ∀ (k : Nat) u, (cells r)[k]? = some u → W'.cell? ⟨g, o + k, none⟩ = some u) := fun i hi => by
  obtain ⟨g, off, e, h1, h2, h3⟩ := h i hi
  exact ⟨g, off, e, h1, h2, fun j r hr k u hu => (hb.cell (p := ⟨g, _, none⟩) (World.block_lt_of_cell? W ⟨g, _, none⟩ (by rw [h3 j r hr k u hu]))).trans (h3 j r hr k u hu)⟩
theorem own_last {N : World} {b g n c m : Nat} {K : List RawE} (h : OwnE N b (.slice (some ⟨g, 0, none⟩) n c) (K ++ [rawZ])) (hm : m = K.length) : (∃ u, N.cell? ⟨g, m * 9, none⟩ = some u) ∧ (∃ u, N.cell? ⟨g, m * 9 + 1, none⟩ = some u) ∧ (∃ u, N.cell? ⟨g, m * 9 + 2, none⟩ = some u) ∧ (∃ u, N.cell? ⟨g, m * 9 + 3, none⟩ = some u) ∧ (∃ u, N.cell? ⟨g, m * 9 + 4, none⟩ = some u) ∧ (∃ u, N.cell? ⟨g, m * 9 + 5, none⟩ = some u) ∧ (∃ u, N.cell? ⟨g, m * 9 + 6, none⟩ = some u) ∧ (∃ u, N.cell? ⟨g, m * 9 + 7, none⟩ = some u) ∧ (∃ u, N.cell? ⟨g, m * 9 + 8, none⟩ = some u) ∧ ∀ o, N.frozen? ⟨g, o, none⟩ = false := by
  have hr : (K ++ [rawZ])[m]? = some rawZ := by rw [hm, List.getElem?_append_right (Nat.le_refl _), Nat.sub_self]; rfl
  have e := fun k u hu => OwnF.cellAt RawE.cells_len h hr (k := k) (u := u) hu
  exact ⟨⟨_, (e 0 _ rfl).1⟩, ⟨_, (e 1 _ rfl).1⟩, ⟨_, (e 2 _ rfl).1⟩, ⟨_, (e 3 _ rfl).1⟩, ⟨_, (e 4 _ rfl).1⟩, ⟨_, (e 5 _ rfl).1⟩, ⟨_, (e 6 _ rfl).1⟩, ⟨_, (e 7 _ rfl).1⟩, ⟨_, (e 8 _ rfl).1⟩, (e 0 _ rfl).2⟩
theorem SS.grown {W X N : World} {b g Wd gN nN cN : Nat} {v v' : Value} {L : List Ex} {K : List RawE} {x : Ex} {r' : RawE} (hb : Below W.heap.size W X) (h0 : ∀ k, v.ownBlock = some k → k < g) (hgW : g < W.heap.size)
    (hK3 : ∀ (j : Nat) (r : RawE) (x : Ex), K[j]? = some r → L[j]? = some x → ExMP W (fun k => b ≤ k ∧ v.ownBlock ≠ some k) x r.cells) (hWd : W.heap.size ≤ Wd) (hbW : b ≤ W.heap.size) (hnew : ExMP X (fun k => Wd ≤ k) x r'.cells)
    (hv : v' = .slice (some ⟨gN, 0, none⟩) nN cN) (oN : Out (fun k => v.ownBlock = some k) X N) (hat : v'.ownBlock = v.ownBlock ∨ v'.ownBlock = some X.heap.size) :
    (∀ (j : Nat) (r : RawE) (x : Ex), K[j]? = some r → L[j]? = some x → ExMP N (fun k => b ≤ k ∧ v'.ownBlock ≠ some k) x r.cells) ∧ ExMP N (fun k => b ≤ k ∧ v'.ownBlock ≠ some k) x r'.cells ∧ Out (fun k => v.ownBlock = some k) W N ∧ gN ≠ g ∧ (v.ownBlock = some gN ∨ W.heap.size ≤ gN) := by
  have hown : v'.ownBlock = some gN := by rw [hv]; rfl
  have hXW := hb.size
  refine ⟨fun j r x hr hx => ?_, ?_, (Out.of hb).trans (oN.mono fun k _ h => h), ?_, ?_⟩
  · refine ExMP.on oN.size (fun k hk hkX => oN.block k hkX hk.1.2) (fun k hk hkX => ⟨hk.1.1, fun e => ?_⟩) _ _ (ExMP.on (P := fun k => b ≤ k ∧ v.ownBlock ≠ some k) (Q := fun k => (b ≤ k ∧ v.ownBlock ≠ some k) ∧ k < W.heap.size) hb.size (fun k _ hk => hb.block k hk) (fun k hk hkW => ⟨hk, hkW⟩) _ _ (hK3 j r x hr hx))
    rcases hat with h | h
    · exact hk.1.2 (h ▸ e)
    · rw [h] at e
      injection e with e
      have := hk.2
      omega
  · refine ExMP.on oN.size (fun k hk hkX => oN.block k hkX (fun e => ?_)) (fun k hk hkX => ⟨by omega, fun e => ?_⟩) _ _ hnew
    · have := h0 k e
      omega
    · rcases hat with h | h
      · have := h0 k (h ▸ e)
        omega
      · rw [h] at e
        injection e with e
        omega
  · rcases hat with h | h
    · have := h0 gN (h ▸ hown)
      omega
    · rw [h] at hown
      injection hown with e
      omega
  · rcases hat with h | h
    · exact .inl (h ▸ hown)
    · rw [h] at hown
      injection hown with e
      exact .inr (by omega)

theorem split_count : ∀ (k : Nat) (x : Ex), x.deep ≤ k → x.split.length ≤ x.count
  | 0, x, h => absurd (deep_pos x) (by omega)
  | k + 1, .mk op v rel col n s l, h => by
    match l, h with
    | [], _ => rw [Ex.split]; exact count_pos _
    | [a], _ => rw [Ex.split]; exact count_pos _
    | [a, b], h =>
      rw [Ex.split]
      rw [Ex.deep, deepL, deepL, deepL] at h
      split
      · have h1 := split_count k a (by omega)
        have h2 := split_count k b (by omega)
        rw [List.length_append, Ex.count, countL, countL, countL]
        omega
      · exact count_pos _
    | a :: b :: c :: r, _ => rw [Ex.split]; exact count_pos _
theorem split_other {op : Int} {v : Val} {rel col n : Int} {s : ByteArray} {l : List Ex} (h : op ≠ 15) : (Ex.mk op v rel col n s l).split = [.mk op v rel col n s l] := by
  match l with
  | [] => rw [Ex.split]
  | [a] => rw [Ex.split]
  | [a, b] => rw [Ex.split, if_neg h]
  | a :: b :: c :: r => rw [Ex.split]

def SplitC (x : Ex) : Prop := ∀ (w : World) (cs : List Value) (b C R : Nat) (v : Value) (L : List Ex), ExMP w (fun k => k < b ∧ k ≠ C) x cs → SS w b C R v L → L.length + x.count ≤ 200 →
  Calls Tryd.prog 27 #[.agg cs.toArray, .pointer (some ⟨C, 0, none⟩), .pointer (some ⟨R, 0, none⟩)] w fun e w' => e = .returned (.tuple #[]) ∧ ∃ v', SS w' b C R v' (L ++ x.split) ∧ Out (fun k => k = C ∨ v.ownBlock = some k) w w' ∧ ∀ k, v'.ownBlock = some k → v.ownBlock = some k ∨ w.heap.size ≤ k

set_option maxHeartbeats 16000000 in
theorem splitC_other (op : Int) (v : Val) (rel col n : Int) (s : ByteArray) (l : List Ex) (h15 : op ≠ 15) (HCP : CopyC (.mk op v rel col n s l)) : SplitC (.mk op v rel col n s l) := by
  intro w cs b C R vo L hx hS hLN
  have hxx := hx
  rw [ExMP.iff] at hx
  obtain ⟨-, q, c, rfl, -, -⟩ := hx
  have HX := Lib.hid hxx
  have HSO := Lib.hid (split_other (v := v) (rel := rel) (col := col) (n := n) (s := s) (l := l) h15)
  have n15 : (op != 15) = true := by simpa using h15
  have hc1 := count_pos (.mk op v rel col n s l)
  have HLN := Lib.hid (show L.length + 1 ≤ 200 by omega)
  obtain ⟨len, hlen⟩ : ∃ len, len = l.length := ⟨_, rfl⟩
  rw [← hlen] at HX ⊢
  have HCP := Lib.hid HCP
  obtain ⟨K0, hO0, hl0, -⟩ := hS.sl
  obtain ⟨qv, cv, rfl, -, -, -, -⟩ := OwnF.arr RawE.cells_len hO0
  rw [hl0] at hS ⊢
  obtain ⟨nv, hnv⟩ : ∃ nv, nv = L.length := ⟨_, rfl⟩
  rw [← hnv] at hS ⊢
  have HNL := Lib.hid hnv
  rw [hl0, ← hnv] at hO0
  have HOB0 := Lib.hid (fun k (e : (Value.slice qv nv cv).ownBlock = some k) => (hO0.lt k e).2)
  have HS0 := Lib.hid hS
  clear hxx h15 hc1 hLN hlen hS hO0 hl0 hnv
  obtain ⟨W, hW⟩ : ∃ X', X' = w.alloc (.cells (exCells op v rel col n s q len c).toArray 26) := ⟨_, rfl⟩
  have hEB : EB W w.heap.size op v rel col n s q len c := by rw [hW]; exact EB.new _ _ _ _ _ _ _ _ _ _ _
  have hb0 : Below w.heap.size w W := by rw [hW]; exact ext_alloc (ext_refl _) _
  have HWW := Lib.hid hW
  clear hW
  go_enter Tryd.func27, Tryd.ntmps27
  go_upto_region 1 with fail
  rw [← HWW.out]
  clear HWW
  obtain ⟨g, hg⟩ : ∃ g, g = w.heap.size := ⟨_, rfl⟩
  rw [← hg] at hEB ⊢
  have HGW := Lib.hid hg
  have HOB := Lib.hid (show ∀ k, (Value.slice qv nv cv).ownBlock = some k → k < g from fun k e => by rw [HGW.out]; exact HOB0.out k e)
  have HB0 := Lib.hid hb0
  have HSW := Lib.hid (HS0.out.on hb0)
  have HEW := Lib.hid hEB
  clear hg hb0
  obtain ⟨lt, c0, c1, c2, c3, c4, c5, c6, c7, c8⟩ := hEB
  go_upto_region 2 with fail
  clear lt c0 c1 c2 c3 c4 c5 c6 c7 c8
  have hd0 : Below W.heap.size W W.drew := (Below.refl _ _).drew
  obtain ⟨K, hK1, hK2, hK3⟩ := HSW.out.sl
  have hnv : nv = K.length := HNL.out.trans hK2.symm
  have HK1 := Lib.hid hK1
  have HK2 := Lib.hid hK2
  have HK3 := Lib.hid hK3
  have HNV := Lib.hid hnv
  have hCg : C < W.heap.size := Nat.lt_of_lt_of_le HSW.out.lC HSW.out.bs
  have hS : ∀ W', Below W.heap.size W W' → W'.cell? ⟨g, 0, none⟩ = some (.int .i64 op) ∧ W'.cell? ⟨g, 1, none⟩ = some (.int .i64 v.k) ∧ W'.cell? ⟨g, 2, none⟩ = some (.int .i64 v.n) ∧ W'.cell? ⟨g, 3, none⟩ = some (.string v.s) ∧ W'.cell? ⟨g, 4, none⟩ = some (.int .i64 rel) ∧ W'.cell? ⟨g, 5, none⟩ = some (.int .i64 col) ∧ W'.cell? ⟨g, 6, none⟩ = some (.int .i64 n) ∧ W'.cell? ⟨g, 7, none⟩ = some (.string s) ∧ W'.cell? ⟨g, 8, none⟩ = some (.slice q len c) := fun W' hb => ⟨(HEW.out.on hb).c0, (HEW.out.on hb).c1, (HEW.out.on hb).c2, (HEW.out.on hb).c3, (HEW.out.on hb).c4, (HEW.out.on hb).c5, (HEW.out.on hb).c6, (HEW.out.on hb).c7, (HEW.out.on hb).c8⟩
  have hC : ∀ W', Below W.heap.size W W' → W'.cell? ⟨C, 0, none⟩ = some (.slice qv nv cv) ∧ ∀ o, W'.frozen? ⟨C, o, none⟩ = false := fun W' hb => ⟨(HSW.out.on hb).cC, (HSW.out.on hb).fC⟩
  have HC := Lib.hid hC
  clear hC
  have HS := Lib.hid hS
  have HD0 := Lib.hid hd0
  have HCX := Lib.hid (show ∀ X : World, Below W.heap.size W X → Calls Tryd.prog 28 #[.agg #[.int .i64 op, .int .i64 v.k, .int .i64 v.n, .string v.s, .int .i64 rel, .int .i64 col, .int .i64 n, .string s, .slice q len c]] X (fun e w' => (∃ cs' : List Value, e = .returned (.agg cs'.toArray) ∧ ExMP w' (fun g => X.heap.size ≤ g) (.mk op v rel col n s l) cs') ∧ Below X.heap.size X w') from fun X hb => HCP.out X _ (ExMP.toM _ _ ((HX.out.below HB0.out).below hb)))
  clear hK1 hK2 hK3 hnv hS hd0 hCg HCP HX
  have hON : ∀ X N : World, Below W.heap.size W X → Out (fun k => (Value.slice qv nv cv).ownBlock = some k) X N → (N.cell? ⟨g, 0, none⟩ = some (.int .i64 op) ∧ N.cell? ⟨g, 1, none⟩ = some (.int .i64 v.k) ∧ N.cell? ⟨g, 2, none⟩ = some (.int .i64 v.n) ∧ N.cell? ⟨g, 3, none⟩ = some (.string v.s) ∧ N.cell? ⟨g, 4, none⟩ = some (.int .i64 rel) ∧ N.cell? ⟨g, 5, none⟩ = some (.int .i64 col) ∧ N.cell? ⟨g, 6, none⟩ = some (.int .i64 n) ∧ N.cell? ⟨g, 7, none⟩ = some (.string s) ∧ N.cell? ⟨g, 8, none⟩ = some (.slice q len c)) ∧ N.cell? ⟨C, 0, none⟩ = some (.slice qv nv cv) ∧ ∀ o, N.frozen? ⟨C, o, none⟩ = false := fun X N hb o => by
    have hg : ∀ k u, X.cell? ⟨g, k, none⟩ = some u → N.cell? ⟨g, k, none⟩ = some u := fun k u hu => (World.cell?_of_block (w := X) (o.block g (World.block_lt_of_cell? X ⟨g, k, none⟩ (by rw [hu])) (fun e => by have := HOB.out g e; omega))).trans hu
    obtain ⟨z1, z2, z3, z4, z5, z6, z7, z8, z9⟩ := HS.out X hb
    have hCb : (Value.slice qv nv cv).ownBlock ≠ some C := fun e => by have := (HK1.out.lt C e).1; have := HSW.out.lC; omega
    have hCX : C < X.heap.size := Nat.lt_of_lt_of_le HSW.out.lC (Nat.le_trans HSW.out.bs hb.size)
    refine ⟨⟨hg _ _ z1, hg _ _ z2, hg _ _ z3, hg _ _ z4, hg _ _ z5, hg _ _ z6, hg _ _ z7, hg _ _ z8, hg _ _ z9⟩, (World.cell?_of_block (w := X) (o.block C hCX hCb)).trans (HC.out X hb).1, fun k => ?_⟩
    have h1 := (HC.out X hb).2 k
    have h2 := o.block C hCX hCb
    unfold World.frozen? at h1 ⊢
    rw [h2]
    exact h1
  have HON := Lib.hid hON
  have hFF : ∀ (N : World) (gN cN : Nat) (r' : RawE), ((∀ (j : Nat) (r : RawE) (x : Ex), K[j]? = some r → L[j]? = some x → ExMP N (fun k => b ≤ k ∧ (Value.slice (some ⟨gN, 0, none⟩) (nv + 1) cN).ownBlock ≠ some k) x r.cells) ∧ ExMP N (fun k => b ≤ k ∧ (Value.slice (some ⟨gN, 0, none⟩) (nv + 1) cN).ownBlock ≠ some k) (.mk op v rel col n s l) r'.cells ∧ Out (fun k => (Value.slice qv nv cv).ownBlock = some k) W N ∧ gN ≠ g ∧ ((Value.slice qv nv cv).ownBlock = some gN ∨ W.heap.size ≤ gN)) → b ≤ gN → OwnE N b (.slice (some ⟨gN, 0, none⟩) (nv + 1) cN) (K ++ [rawZ]) → gN < N.heap.size → N.cell? ⟨C, 0, none⟩ = some (.slice qv nv cv) → (∀ o, N.frozen? ⟨C, o, none⟩ = false) →
      (∃ v', SS ((setE N gN (nv * 9) r').setCell ⟨C, 0, none⟩ (.slice (some ⟨gN, 0, none⟩) (nv + 1) cN)) b C R v' (L ++ (Ex.mk op v rel col n s l).split) ∧ Out (fun k => k = C ∨ (Value.slice qv nv cv).ownBlock = some k) w ((setE N gN (nv * 9) r').setCell ⟨C, 0, none⟩ (.slice (some ⟨gN, 0, none⟩) (nv + 1) cN)) ∧ ∀ k, v'.ownBlock = some k → (Value.slice qv nv cv).ownBlock = some k ∨ w.heap.size ≤ k) ∧
      (∃ v', SS (setE (N.setCell ⟨C, 0, none⟩ (.slice (some ⟨gN, 0, none⟩) (nv + 1) cN)) gN (nv * 9) r') b C R v' (L ++ (Ex.mk op v rel col n s l).split) ∧ Out (fun k => k = C ∨ (Value.slice qv nv cv).ownBlock = some k) w (setE (N.setCell ⟨C, 0, none⟩ (.slice (some ⟨gN, 0, none⟩) (nv + 1) cN)) gN (nv * 9) r') ∧ ∀ k, v'.ownBlock = some k → (Value.slice qv nv cv).ownBlock = some k ∨ w.heap.size ≤ k) := by
    intro N gN cN r' hP hgb hO hgN hc hf
    obtain ⟨p1, p2, p3, p4, p5⟩ := hP
    have hCb := HSW.out.lC
    have hCN : C ≠ gN := by omega
    have hset : (K ++ [rawZ]).set nv r' = K ++ [r'] := by rw [HNV.out, List.set_append_right _ _ (Nat.le_refl _), Nat.sub_self]; rfl
    have hoM : ∀ M : World, Out (fun k => k = C ∨ k = gN) N M → Out (fun k => k = C ∨ (Value.slice qv nv cv).ownBlock = some k) w M := fun M o => by
      refine ⟨o.os.trans (p3.os.trans HB0.out.os), o.tape.trans (p3.tape.trans HB0.out.tape), o.output.trans (p3.output.trans HB0.out.output), Nat.le_trans HB0.out.size (Nat.le_trans p3.size o.size), fun k hk hn => ?_⟩
      have h1 := HB0.out.block k hk
      have h2 := p3.block k (Nat.lt_of_lt_of_le hk HB0.out.size) (fun e => hn (.inr e))
      have h3 := o.block k (Nat.lt_of_lt_of_le hk (Nat.le_trans HB0.out.size p3.size)) (fun e => by
        rcases e with e | e
        · exact hn (.inl e)
        · rcases p5 with h | h
          · exact hn (.inr (by rw [e]; exact h))
          · have := HB0.out.size
            omega)
      exact h3.trans (h2.trans h1)
    have hown : ∀ k, (Value.slice (some ⟨gN, 0, none⟩) (nv + 1) cN).ownBlock = some k → (Value.slice qv nv cv).ownBlock = some k ∨ w.heap.size ≤ k := fun k e => by
      have e : gN = k := by simpa [Value.ownBlock] using e
      rcases p5 with h | h
      · exact .inl (by rw [← e]; exact h)
      · exact .inr (by have := HB0.out.size; omega)
    have push : ∀ M : World, Out (fun k => k = C ∨ k = gN) N M → M.cell? ⟨C, 0, none⟩ = some (.slice (some ⟨gN, 0, none⟩) (nv + 1) cN) → (∀ o, M.frozen? ⟨C, o, none⟩ = false) → OwnE M b (.slice (some ⟨gN, 0, none⟩) (nv + 1) cN) (K ++ [r']) → SS M b C R (.slice (some ⟨gN, 0, none⟩) (nv + 1) cN) (L ++ (Ex.mk op v rel col n s l).split) := fun M o h1 h2 h3 => by
      rw [HSO.out]
      exact SS.push (D := W) (N := N) HSW.out HK2.out p3.size p1 p2 (by rw [HNV.out]) hgb (p3.mono fun k _ e => (HK1.out.lt k e).1) o h1 h2 h3
    have oC : ∀ M : World, Out (fun k => k = C ∨ k = gN) M (M.setCell ⟨C, 0, none⟩ (.slice (some ⟨gN, 0, none⟩) (nv + 1) cN)) := fun M => Out.set ⟨C, 0, none⟩ _ (.inl rfl)
    have oE : ∀ M : World, Out (fun k => k = C ∨ k = gN) M (setE M gN (nv * 9) r') := fun M => (setE_out M gN (nv * 9) r').mono fun k _ e => .inr e
    have hlt : nv < (K ++ [rawZ]).length := by rw [List.length_append, ← HNV.out]; simp
    obtain ⟨E1, hE1⟩ : ∃ E, E = setE N gN (nv * 9) r' := ⟨_, rfl⟩
    obtain ⟨C1, hC1⟩ : ∃ E, E = N.setCell ⟨C, 0, none⟩ (.slice (some ⟨gN, 0, none⟩) (nv + 1) cN) := ⟨_, rfl⟩
    obtain ⟨E2, hE2⟩ : ∃ E, E = setE C1 gN (nv * 9) r' := ⟨_, rfl⟩
    have oE1 := oE N
    have oS1 := setE_out N gN (nv * 9) r'
    have oS2 := setE_out C1 gN (nv * 9) r'
    have oC1 := oC N
    have oE2 := oE C1
    have wE1 := OwnE.setAll r' hO hlt
    have wE2 : OwnE C1 b (.slice (some ⟨gN, 0, none⟩) (nv + 1) cN) (K ++ [rawZ]) := by rw [hC1]; exact hO.kept (Out.set (S := fun k => k = C) ⟨C, 0, none⟩ _ rfl) (fun k hk e => hCN (by rw [← hk]; simpa [Value.ownBlock] using e.symm))
    have wE3 := OwnE.setAll r' wE2 hlt
    rw [hset] at wE1 wE3
    rw [← hE1] at oE1 oS1 wE1 ⊢
    rw [← hC1] at oC1 ⊢
    rw [← hE2] at oE2 oS2 wE3 ⊢
    have cC1 : C1.cell? ⟨C, 0, none⟩ = some (.slice (some ⟨gN, 0, none⟩) (nv + 1) cN) := by rw [hC1]; exact cell_set_here hc
    have fC1 : ∀ o, C1.frozen? ⟨C, o, none⟩ = false := fun o => by rw [hC1, World.frozen?_setCell]; exact hf o
    have cE1 : E1.cell? ⟨C, 0, none⟩ = some (.slice qv nv cv) := (World.cell?_of_block (w := N) (oS1.block C (World.block_lt_of_cell? N ⟨C, 0, none⟩ (by rw [hc])) hCN)).trans hc
    have fE1 : ∀ o, E1.frozen? ⟨C, o, none⟩ = false := fun o => by
      have h2 := oS1.block C (World.block_lt_of_cell? N ⟨C, 0, none⟩ (by rw [hc])) hCN
      have h1 := hf o
      unfold World.frozen? at h1 ⊢
      rw [h2]
      exact h1
    have cE2 : E2.cell? ⟨C, 0, none⟩ = some (.slice (some ⟨gN, 0, none⟩) (nv + 1) cN) := (World.cell?_of_block (w := C1) (oS2.block C (World.block_lt_of_cell? C1 ⟨C, 0, none⟩ (by rw [cC1])) hCN)).trans cC1
    have fE2 : ∀ o, E2.frozen? ⟨C, o, none⟩ = false := fun o => by
      have h2 := oS2.block C (World.block_lt_of_cell? C1 ⟨C, 0, none⟩ (by rw [cC1])) hCN
      have h1 := fC1 o
      unfold World.frozen? at h1 ⊢
      rw [h2]
      exact h1
    clear hE1 hC1 hE2
    exact ⟨⟨_, push _ (oE1.trans (oC E1)) (cell_set_here cE1) (fun o => by rw [World.frozen?_setCell]; exact fE1 o) (wE1.kept (Out.set (S := fun k => k = C) ⟨C, 0, none⟩ _ rfl) (fun k hk e => hCN (by rw [← hk]; simpa [Value.ownBlock] using e.symm))), hoM _ (oE1.trans (oC E1)), hown⟩, ⟨_, push _ (oC1.trans oE2) cE2 fE2 wE3, hoM _ (oC1.trans oE2), hown⟩⟩
  have HFF := Lib.hid hFF
  clear hON hFF
  have BZ := Lib.hid (show Below W.heap.size W (W.alloc (.cells #[.int .i64 0, .int .i64 0, .int .i64 0, .string ⟨#[]⟩, .int .i64 0, .int .i64 0, .int .i64 0, .string ⟨#[]⟩, .slice none 0 0] 26)).drew from ext_drew (ext_alloc (ext_refl W) _))
  have BZ2 := Lib.hid (show Below (W.alloc (.cells #[.int .i64 0, .int .i64 0, .int .i64 0, .string ⟨#[]⟩, .int .i64 0, .int .i64 0, .int .i64 0, .string ⟨#[]⟩, .slice none 0 0] 26)).heap.size (W.alloc (.cells #[.int .i64 0, .int .i64 0, .int .i64 0, .string ⟨#[]⟩, .int .i64 0, .int .i64 0, .int .i64 0, .string ⟨#[]⟩, .slice none 0 0] 26)) (W.alloc (.cells #[.int .i64 0, .int .i64 0, .int .i64 0, .string ⟨#[]⟩, .int .i64 0, .int .i64 0, .int .i64 0, .string ⟨#[]⟩, .slice none 0 0] 26)).drew from ext_drew (ext_refl _))
  obtain ⟨dC, dF⟩ := HC.out W.drew HD0.out
  obtain ⟨d1, d2, d3, d4, d5, d6, d7, d8, d9⟩ := HS.out W.drew HD0.out
  obtain ⟨wC, wF⟩ := HC.out W (ext_refl _)
  obtain ⟨w1, w2, w3, w4, w5, w6, w7, w8, w9⟩ := HS.out W (ext_refl _)
  have lC : C < W.heap.size := Nat.lt_of_lt_of_le HSW.out.lC HSW.out.bs
  have lg : g < W.heap.size := HEW.out.lt
  go_region_law (first
    | (refine step_call rfl 28 _ _ rfl (.agg #[.int .i64 op, .int .i64 v.k, .int .i64 v.n, .string v.s, .int .i64 rel, .int .i64 col, .int .i64 n, .string s, .slice q len c]) rfl (Tryd.enterCopied _ _) ?_; with_reducible refine (HCX.out W.drew HD0.out).mono ?_; rintro e Y1 ⟨⟨cs', rfl, hP⟩, hb⟩; refine ⟨_, rfl, ?_⟩; obtain ⟨r', rfl⟩ := hP.raw; have BY1 := Lib.hid (HD0.out.trans (hb.mono HD0.out.size)); have HA1 := Lib.hid hP; obtain ⟨yC, yF⟩ := HC.out Y1 BY1.out; obtain ⟨y1, y2, y3, y4, y5, y6, y7, y8, y9⟩ := HS.out Y1 BY1.out; have yl : C < Y1.heap.size := (Nat.lt_of_lt_of_le lC BY1.out.size); have yg : g < Y1.heap.size := (Nat.lt_of_lt_of_le lg BY1.out.size); have BY1Z := Lib.hid (ext_alloc BY1.out (.cells #[.int .i64 0, .int .i64 0, .int .i64 0, .string ⟨#[]⟩, .int .i64 0, .int .i64 0, .int .i64 0, .string ⟨#[]⟩, .slice none 0 0] 26)); clear hP hb)
    | (refine step_call rfl 28 _ _ rfl (.agg #[.int .i64 op, .int .i64 v.k, .int .i64 v.n, .string v.s, .int .i64 rel, .int .i64 col, .int .i64 n, .string s, .slice q len c]) rfl (Tryd.enterCopied _ _) ?_; with_reducible refine (HCX.out (W.alloc (.cells #[.int .i64 0, .int .i64 0, .int .i64 0, .string ⟨#[]⟩, .int .i64 0, .int .i64 0, .int .i64 0, .string ⟨#[]⟩, .slice none 0 0] 26)).drew BZ.out).mono ?_; rintro e Y2 ⟨⟨cs', rfl, hP⟩, hb⟩; refine ⟨_, rfl, ?_⟩; obtain ⟨r', rfl⟩ := hP.raw; have BY2 := Lib.hid (BZ.out.trans (hb.mono BZ.out.size)); have HA2 := Lib.hid hP; have HB2 := Lib.hid (BZ2.out.trans (hb.mono BZ2.out.size)); obtain ⟨yC, yF⟩ := HC.out Y2 BY2.out; obtain ⟨y1, y2, y3, y4, y5, y6, y7, y8, y9⟩ := HS.out Y2 BY2.out; clear hP hb)
    | (refine step_append_flat rfl _ _ 24 26 rfl Tryd.underlying24 _ 104 Tryd.infoExpr8 rfl (by omega) RawE.cells_len RawE.cells_one b (.slice qv nv cv) K rfl (HK1.out.later BY1Z.out) _ 1 1 [rawZ] rfl rfl 0 _ (one_block RawE.cells_len 26 #[.int .i64 0, .int .i64 0, .int .i64 0, .string ⟨#[]⟩, .int .i64 0, .int .i64 0, .int .i64 0, .string ⟨#[]⟩, .slice none 0 0] rawZ rfl _ rfl) (by rw [HK2.out, ← HNL.out]; unfold maxLen; have := HLN.out; have := HNL.out; simp; omega) (by rw [HK2.out]; have := HLN.out; simp; omega) (Nat.le_trans HSW.out.bs BY1Z.out.size) ?_; intro qN cN N ON bN oN hatN; obtain ⟨gN, rfl, -, hgb, hgN⟩ := OwnF.at_ ON (by simp); rw [show (K ++ [rawZ]).length = nv + 1 by rw [List.length_append, ← HNV.out]; rfl] at ON hatN ⊢; have HSP := Lib.hid (SS.grown BY1Z.out HOB.out (HEW.out.lt) HK3.out HD0.out.size HSW.out.bs (HA1.out.below (ext_alloc (ext_refl _) _)) rfl oN hatN); obtain ⟨⟨_, e0⟩, ⟨_, e1⟩, ⟨_, e2⟩, ⟨_, e3⟩, ⟨_, e4⟩, ⟨_, e5⟩, ⟨_, e6⟩, ⟨_, e7⟩, ⟨_, e8⟩, ef⟩ := own_last ON HNV.out; obtain ⟨-, cN0, fN0⟩ := HON.out (Y1.alloc (.cells #[.int .i64 0, .int .i64 0, .int .i64 0, .string ⟨#[]⟩, .int .i64 0, .int .i64 0, .int .i64 0, .string ⟨#[]⟩, .slice none 0 0] 26)) N BY1Z.out oN; have nC1 : C ≠ gN := (by have h5 := HSW.out.lC; omega); have nC2 : gN ≠ C := (by have h5 := HSW.out.lC; omega); have nC3 : ¬ C = gN := nC1; have nC4 : ¬ gN = C := nC2; have nI : ((nv : Nat) : Int) < ((nv : Nat) : Int) + 1 := (by omega); have nJ : (0 : Int) ≤ ((nv : Nat) : Int) := (by omega); have HF := HFF.out N gN cN r' HSP.out hgb ON hgN cN0 fN0; have H1 := Lib.hid HF.1; have H2 := Lib.hid HF.2; clear ON bN oN hatN hgb hgN HF; obtain ⟨rop', ⟨rvk', rvn', rvs'⟩, rrel', rcol', rn', rs', rq', rlen', rc'⟩ := r')
    | (refine step_append_flat rfl _ _ 24 26 rfl Tryd.underlying24 _ 104 Tryd.infoExpr8 rfl (by omega) RawE.cells_len RawE.cells_one b (.slice qv nv cv) K rfl (HK1.out.later BY2.out) _ 1 1 [rawZ] rfl rfl 0 _ (one_later HB2.out (one_block RawE.cells_len 26 #[.int .i64 0, .int .i64 0, .int .i64 0, .string ⟨#[]⟩, .int .i64 0, .int .i64 0, .int .i64 0, .string ⟨#[]⟩, .slice none 0 0] rawZ rfl _ rfl)) (by rw [HK2.out, ← HNL.out]; unfold maxLen; have := HLN.out; have := HNL.out; simp; omega) (by rw [HK2.out]; have := HLN.out; simp; omega) (Nat.le_trans HSW.out.bs BY2.out.size) ?_; intro qN cN N ON bN oN hatN; obtain ⟨gN, rfl, -, hgb, hgN⟩ := OwnF.at_ ON (by simp); rw [show (K ++ [rawZ]).length = nv + 1 by rw [List.length_append, ← HNV.out]; rfl] at ON hatN ⊢; have HSP := Lib.hid (SS.grown BY2.out HOB.out (HEW.out.lt) HK3.out BZ.out.size HSW.out.bs HA2.out rfl oN hatN); obtain ⟨⟨_, e0⟩, ⟨_, e1⟩, ⟨_, e2⟩, ⟨_, e3⟩, ⟨_, e4⟩, ⟨_, e5⟩, ⟨_, e6⟩, ⟨_, e7⟩, ⟨_, e8⟩, ef⟩ := own_last ON HNV.out; obtain ⟨-, cN0, fN0⟩ := HON.out Y2 N BY2.out oN; have nC1 : C ≠ gN := (by have h5 := HSW.out.lC; omega); have nC2 : gN ≠ C := (by have h5 := HSW.out.lC; omega); have nC3 : ¬ C = gN := nC1; have nC4 : ¬ gN = C := nC2; have nI : ((nv : Nat) : Int) < ((nv : Nat) : Int) + 1 := (by omega); have nJ : (0 : Int) ≤ ((nv : Nat) : Int) := (by omega); have HF := HFF.out N gN cN r' HSP.out hgb ON hgN cN0 fN0; have H1 := Lib.hid HF.1; have H2 := Lib.hid HF.2; clear ON bN oN hatN hgb hgN HF; obtain ⟨rop', ⟨rvk', rvn', rvs'⟩, rrel', rcol', rn', rs', rq', rlen', rc'⟩ := r'))
  all_goals (go_wp2_with fail; refine bodyPost_ret (results_none (by rfl) _ _ _) rfl ⟨rfl, ?_⟩; first | with_reducible exact H1.out | with_reducible exact H2.out)

end Go.Proofs.YtiidfghdmaipoaaDoor
