/- A part of the proof. -/
import Derived.Test.YtklgoajgchfmeaaDoorSnRn
import Derived.Test.YtklgoajgchfmeaaDoorKt
set_option linter.unusedVariables false
set_option linter.unusedSimpArgs false
namespace Go.Proofs.YtklgoajgchfmeaaDoor
open Go.RowKit Go.Deep Go.Maps Go.ChangeShapes Go.Shelf
set_option maxRecDepth 100000
theorem rnormC_any : ∀ (k : Nat) (x : Ex), x.deep ≤ k → x.okAll = true → RNormC x
  | 0, x, h, _ => absurd (deep_pos x) (by omega)
  | k + 1, .mk op v rel col n s l, h, ho => by
    rw [Ex.okAll, Bool.and_eq_true] at ho
    exact rnormC_step op v rel col n s l (head_two ho.1) fun y hy => rnormC_any k y (by rw [Ex.deep] at h; have := deepL_of_mem hy; omega) (by obtain ⟨i, hi, he⟩ := List.getElem_of_mem hy; exact okL_all ho.2 (i := i) (by rw [List.getElem?_eq_getElem hi, he]))
set_option maxHeartbeats 8000000 in
theorem rnormal_any (x : Ex) (cs : List Value) (w : World) (hx : ExM w x cs) : Calls Tryd.prog 11 #[.agg cs.toArray] w fun e w' => (∃ r : RawE, e = .returned (.tuple #[.agg r.cells.toArray, .bool (rightE x)]) ∧ ExMP w' (fun g => w.heap.size ≤ g) (normR x) r.cells) ∧ Below w.heap.size w w' := by
  have HX := Lib.hid hx
  obtain ⟨op, v, rel, col, n, s, l⟩ := x
  rw [ExM.iff] at hx
  obtain ⟨-, q, c, rfl, -, -⟩ := hx
  obtain ⟨len, hlen⟩ : ∃ len, len = l.length := ⟨_, rfl⟩
  rw [← hlen] at HX ⊢
  clear hlen
  obtain ⟨W1, hW1⟩ : ∃ W, W = w.alloc (.cells (exCells op v rel col n s q len c).toArray 26) := ⟨_, rfl⟩
  have E0 : XB W1 w.heap.size ⟨op, v, rel, col, n, s, q, len, c⟩ := by rw [hW1]; exact XB.new w ⟨op, v, rel, col, n, s, q, len, c⟩ _
  have z1 : W1.heap.size = w.heap.size + 1 := by rw [hW1]; simp
  obtain ⟨W, hW⟩ : ∃ W, W = W1.alloc (.cells rawZ.cells.toArray 26) := ⟨_, rfl⟩
  have b1 : Below W1.heap.size W1 W := by rw [hW]; (repeat (first | exact ext_refl _ | assumption | (refine ext_alloc ?_ _) | (refine ext_drewN ?_ _) | refine ext_drew ?_ | (refine ext_set (by first | (simp; done) | (simp; omega)) _ ?_) | (refine ext_trans ?_ (by assumption))))
  have E1 := E0.on b1
  have E2 : XB W (w.heap.size + 1) rawZ := by rw [hW, ← z1]; exact XB.new W1 rawZ _
  have b : Below w.heap.size w W := by rw [hW, hW1]; (repeat (first | exact ext_refl _ | assumption | (refine ext_alloc ?_ _) | (refine ext_drewN ?_ _) | refine ext_drew ?_ | (refine ext_set (by first | (simp; done) | (simp; omega)) _ ?_) | (refine ext_trans ?_ (by assumption))))
  have HWW := Lib.hid (show W = (w.alloc (.cells (exCells op v rel col n s q len c).toArray 26)).alloc (.cells rawZ.cells.toArray 26) by rw [hW, hW1])
  clear hW hW1 E0 z1 b1
  go_enter Tryd.func11, Tryd.ntmps11
  go_upto_region 1 with fail
  change Code.wp _ _ _ _ ((w.alloc (.cells (exCells op v rel col n s q len c).toArray 26)).alloc (.cells rawZ.cells.toArray 26))
  rw [← HWW.out]
  clear HWW
  obtain ⟨g, hg⟩ : ∃ g, g = w.heap.size := ⟨_, rfl⟩
  have HGW := Lib.hid hg
  rw [← hg] at E1 E2 ⊢
  have HB := Lib.hid b
  have HE1 := Lib.hid E1
  have HE2 := Lib.hid E2
  clear hg b E2
  obtain ⟨lt, cc, -⟩ := E1
  have c0 := cc 0 _ rfl
  have c1 := cc 1 _ rfl
  have c2 := cc 2 _ rfl
  have c3 := cc 3 _ rfl
  have c4 := cc 4 _ rfl
  have c5 := cc 5 _ rfl
  have c6 := cc 6 _ rfl
  have c7 := cc 7 _ rfl
  have c8 := cc 8 _ rfl
  simp only at c0 c1 c2 c3 c4 c5 c6 c7 c8
  clear cc
  go_wp2_with fail
  refine (rightE_any _ _ W (ExM.ext HB.out _ _ HX.out)).mono ?_
  rintro e X ⟨rfl, hbX⟩
  have HBX := Lib.hid (HB.out.trans (hbX.mono HB.out.size))
  have HE1X := HE1.out.on hbX
  have HE2X := Lib.hid (HE2.out.on hbX)
  clear hbX lt c0 c1 c2 c3 c4 c5 c6 c7 c8 HE1 HE2
  cases hs : rightE (.mk op v rel col n s l) with
  | false =>
    have HN := Lib.hid (show normR (.mk op v rel col n s l) = exN by unfold normR; rw [if_neg (by rw [hs]; decide)])
    have HR := Lib.hid hs
    clear hs HE1X
    obtain ⟨ltR, cR, fR⟩ := HE2X.out
    have d0 := cR 0 _ rfl
    have d1 := cR 1 _ rfl
    have d2 := cR 2 _ rfl
    have d3 := cR 3 _ rfl
    have d4 := cR 4 _ rfl
    have d5 := cR 5 _ rfl
    have d6 := cR 6 _ rfl
    have d7 := cR 7 _ rfl
    have d8 := cR 8 _ rfl
    clear cR
    go_wp2_with fail
    change bodyPost _ _ _ _ _ (setE X (g + 1) 0 rawZ)
    have hO := setE_out X (g + 1) 0 rawZ
    have hX2 := XB.setAll HE2X.out rawZ
    obtain ⟨Q, hQQ⟩ : ∃ Q, Q = setE X (g + 1) 0 rawZ := ⟨_, rfl⟩
    rw [← hQQ] at hO hX2
    rw [← hQQ]
    obtain ⟨-, cQ, -⟩ := hX2
    have q0 := cQ 0 _ rfl
    have q1 := cQ 1 _ rfl
    have q2 := cQ 2 _ rfl
    have q3 := cQ 3 _ rfl
    have q4 := cQ 4 _ rfl
    have q5 := cQ 5 _ rfl
    have q6 := cQ 6 _ rfl
    have q7 := cQ 7 _ rfl
    have q8 := cQ 8 _ rfl
    clear hQQ cQ
    refine bodyPost_ret (v := .tuple #[.agg rawZ.cells.toArray, .bool false]) (by simp [results, Tryd.results11, go_sem, q0, q1, q2, q3, q4, q5, q6, q7, q8]) rfl ⟨⟨rawZ, by rw [HR.out], ?_⟩, ?_⟩
    · rw [HN.out]
      exact exN_in _ _
    · have h1 := HBX.out
      exact h1.trans (hO.below h1.size (fun k hk => by rw [hk]; have := HGW.out; omega))
  | true =>
    have HN := Lib.hid (show normR (.mk op v rel col n s l) = (Ex.mk op v rel col n s l).norm by unfold normR; rw [if_pos hs])
    have HR := Lib.hid hs
    have HM := Lib.hid (rnormC_any _ (.mk op v rel col n s l) (Nat.le_refl _) (right_iff8.1 hs).1 X _ (ExM.ext HBX.out _ _ HX.out) hs)
    clear hs
    obtain ⟨lt, cc, -⟩ := HE1X
    have c0 := cc 0 _ rfl
    have c1 := cc 1 _ rfl
    have c2 := cc 2 _ rfl
    have c3 := cc 3 _ rfl
    have c4 := cc 4 _ rfl
    have c5 := cc 5 _ rfl
    have c6 := cc 6 _ rfl
    have c7 := cc 7 _ rfl
    have c8 := cc 8 _ rfl
    simp only at c0 c1 c2 c3 c4 c5 c6 c7 c8
    clear cc
    go_wp2_with fail
    refine HM.out.mono ?_
    rintro e Y ⟨⟨cs', rfl, hP⟩, hbY⟩
    have HP := Lib.hid hP
    have HBY := Lib.hid (HBX.out.trans (hbY.mono HBX.out.size))
    have HE2Y := Lib.hid (HE2X.out.on hbY)
    obtain ⟨r', rfl⟩ := hP.raw
    have HXS := Lib.hid HE2X.out.lt
    clear hP hbY HE2X lt c0 c1 c2 c3 c4 c5 c6 c7 c8 HM
    obtain ⟨op2, ⟨vk2, vn2, vs2⟩, rel2, col2, n2, s2, qz2, len2, cz2⟩ := r'
    obtain ⟨ltR, cR, fR⟩ := HE2Y.out
    have d0 := cR 0 _ rfl
    have d1 := cR 1 _ rfl
    have d2 := cR 2 _ rfl
    have d3 := cR 3 _ rfl
    have d4 := cR 4 _ rfl
    have d5 := cR 5 _ rfl
    have d6 := cR 6 _ rfl
    have d7 := cR 7 _ rfl
    have d8 := cR 8 _ rfl
    clear cR
    go_wp2_with fail
    change bodyPost _ _ _ _ _ (setE Y (g + 1) 0 ⟨op2, ⟨vk2, vn2, vs2⟩, rel2, col2, n2, s2, qz2, len2, cz2⟩)
    have hO := setE_out Y (g + 1) 0 ⟨op2, ⟨vk2, vn2, vs2⟩, rel2, col2, n2, s2, qz2, len2, cz2⟩
    have hX2 := XB.setAll HE2Y.out ⟨op2, ⟨vk2, vn2, vs2⟩, rel2, col2, n2, s2, qz2, len2, cz2⟩
    obtain ⟨Q, hQQ⟩ : ∃ Q, Q = setE Y (g + 1) 0 ⟨op2, ⟨vk2, vn2, vs2⟩, rel2, col2, n2, s2, qz2, len2, cz2⟩ := ⟨_, rfl⟩
    rw [← hQQ] at hO hX2
    rw [← hQQ]
    obtain ⟨-, cQ, -⟩ := hX2
    have q0 := cQ 0 _ rfl
    have q1 := cQ 1 _ rfl
    have q2 := cQ 2 _ rfl
    have q3 := cQ 3 _ rfl
    have q4 := cQ 4 _ rfl
    have q5 := cQ 5 _ rfl
    have q6 := cQ 6 _ rfl
    have q7 := cQ 7 _ rfl
    have q8 := cQ 8 _ rfl
    clear hQQ cQ
    simp only at q0 q1 q2 q3 q4 q5 q6 q7 q8
    refine bodyPost_ret (v := .tuple #[.agg (RawE.cells ⟨op2, ⟨vk2, vn2, vs2⟩, rel2, col2, n2, s2, qz2, len2, cz2⟩).toArray, .bool true]) (by simp [results, Tryd.results11, go_sem, q0, q1, q2, q3, q4, q5, q6, q7, q8]) rfl ⟨⟨⟨op2, ⟨vk2, vn2, vs2⟩, rel2, col2, n2, s2, qz2, len2, cz2⟩, by rw [HR.out], ?_⟩, ?_⟩
    · rw [HN.out]
      refine ExMP.on hO.size (fun k hk hkw => hO.block k hkw (fun e => ?_)) (fun k hk _ => ?_) _ _ HP.out
      · have h2 : X.heap.size ≤ k := hk
        have h3 := HXS.out
        have e : k = g + 1 := e
        omega
      · have h2 : X.heap.size ≤ k := hk
        exact Nat.le_trans HBX.out.size h2
    · have h1 := HBY.out
      exact h1.trans (hO.below h1.size (fun k hk => by rw [hk]; have := HGW.out; omega))
theorem ins_at (x : Ex) : ∀ (K : List Ex) (k : Nat), k ≤ K.length → (∀ j y, j < k → K[j]? = some y → Op.bytesLess y.print x.print = true) → (∀ y, K[k]? = some y → Op.bytesLess y.print x.print = false) →
    insE x K = if (∃ y, K[k]? = some y ∧ y.print = x.print) then K else K.take k ++ x :: K.drop k
  | [], k, hk, _, _ => by
    obtain rfl : k = 0 := by simpa using hk
    rw [if_neg (by rintro ⟨y, h, -⟩; simp at h)]
    rfl
  | y :: K, 0, _, _, h2 => by
    rw [insE, if_neg (by rw [h2 y rfl]; decide)]
    by_cases e : y.print = x.print
    · rw [if_pos e, if_pos ⟨y, rfl, e⟩]
    · rw [if_neg e, if_neg (by rintro ⟨z, h, h'⟩; simp at h; subst h; exact e h')]
      rfl
  | y :: K, k + 1, hk, h1, h2 => by
    have ih := ins_at x K k (by simpa using hk) (fun j z hj hz => h1 (j + 1) z (by omega) (by simpa using hz)) (fun z hz => h2 z (by simpa using hz))
    rw [insE, if_pos (h1 0 y (by omega) rfl), ih]
    by_cases e : ∃ z, K[k]? = some z ∧ z.print = x.print
    · rw [if_pos e, if_pos (by simpa using e)]
    · rw [if_neg e, if_neg (by simpa using e)]
      rfl
theorem sort_snoc {L : List Ex} {i : Nat} {x : Ex} (h : L[i]? = some x) : sortE ((L.take (i + 1)).map Ex.norm) = insE x.norm (sortE ((L.take i).map Ex.norm)) := by
  rw [take_snoc h, List.map_append]
  unfold sortE
  rw [List.foldl_append]
  rfl
theorem wp_append_xs {w : World} {ops : Array Oper} {rest : List Oper} {o : Oper} {a : Act} {Q : Exit → Act → World → Prop} (hgd : o.guard = none) (s x : Operand)
    (ho : o.op = .call { callee := .builtin .append, args := #[s, x], argTypes := #[24, 24] }) (b : Nat) (P : Nat → Prop) (v : Value) (L ys : List Ex) (hs : a.eval s = v) (hL : OwnX w b P v L) (nn mm : Nat) (hnn : nn = L.length) (hmm : mm = ys.length)
    (rs : List RawE) (hrs : rs.length = ys.length) (p : Option Addr) (cp lo hi : Nat) (hx : a.eval x = .slice p mm cp) (hR : ArrA lo hi p 9 rs (fun g o r => ∀ (k : Nat) u, r.cells[k]? = some u → w.cell? ⟨g, o + k, none⟩ = some u))
    (hy : ∀ (j : Nat) (r : RawE) (y : Ex), rs[j]? = some r → ys[j]? = some y → ExMP w (fun k => P k ∧ v.ownBlock ≠ some k) y r.cells) (hn : (nn + mm) * 104 ≤ 140737488355328) (hb : b ≤ w.heap.size)
    (h : ∀ q c w', OwnX w' b P (.slice q (nn + mm) c) (L ++ ys) → Below b w w' → Out (fun k => v.ownBlock = some k) w w' → wpList Tryd.prog ops Q rest (a.put o.dst (.slice q (nn + mm) c)) w') : wpList Tryd.prog ops Q (o :: rest) a w := by
  subst hnn hmm
  obtain ⟨K, h1, h2, h3⟩ := hL
  obtain ⟨v', w', hr, h4, h5, h6, h7⟩ := run_append_flat w 24 26 o.type Tryd.underlying24 _ 104 Tryd.infoExpr8 rfl (by decide) RawE.cells_len RawE.cells_one b v K h1 p ys.length cp rs hrs.symm lo hi hR (by rw [h2, hrs]; unfold maxLen; omega) (by rw [h2, hrs]; exact hn) hb
  obtain ⟨q, c, e, -⟩ := OwnF.arr RawE.cells_len h4
  have el : (K ++ rs).length = L.length + ys.length := by simp [h2, hrs]
  rw [el] at e
  subst e
  refine wpList_plain hgd fun KK hK => ?_
  unfold Oper.wp execOp
  simp only [ho, resolve, invoke, builtin, Sem.run_bind, Sem.run_pure, Result.andThen_ok, List.map_toArray, List.map_cons, List.map_nil, hs, hx, hr]
  refine hK _ _ (h q c w' ⟨K ++ rs, h4, by simp [h2, hrs], fun j r0 z hr0 hz => ?_⟩ h5 h6)
  have hP : ∀ (y : Ex) (cs : List Value), ExMP w (fun k => P k ∧ v.ownBlock ≠ some k) y cs → ExMP w' (fun k => P k ∧ (Value.slice q (L.length + ys.length) c).ownBlock ≠ some k) y cs := fun y cs hy => ExMP.on h6.size (fun k hk hkw => h6.block k hkw hk.2) (fun k hk hkw => ⟨hk.1, fun e => by
    rcases h7 with h7 | h7
    · rw [h7] at e; exact hk.2 e
    · rw [h7] at e; cases e; exact Nat.lt_irrefl _ hkw⟩) y cs hy
  by_cases hj : j < K.length
  · rw [List.getElem?_append_left hj] at hr0
    rw [List.getElem?_append_left (by omega)] at hz
    exact hP _ _ (h3 j r0 z hr0 hz)
  · rw [List.getElem?_append_right (by omega)] at hr0
    rw [List.getElem?_append_right (by omega), ← h2] at hz
    exact hP _ _ (hy _ _ _ hr0 hz)
theorem ArrA.take {α : Type} {lo hi : Nat} {q : Option Addr} {sz : Nat} {l : List α} {P : Nat → Nat → α → Prop} (h : ArrA lo hi q sz l P) (k : Nat) : ArrA lo hi q sz (l.take k) P := fun i hi => by
  obtain ⟨g, off, h1, h2, h3, h4⟩ := h i (by rw [List.length_take] at hi; omega)
  exact ⟨g, off, h1, h2, h3, fun j x hx => h4 j x (by
    rw [List.getElem?_take] at hx
    split at hx
    · exact hx
    · cases hx)⟩
theorem ArrA.drop {α : Type} {lo hi g off : Nat} {sz : Nat} {l : List α} {P : Nat → Nat → α → Prop} (h : ArrA lo hi (some ⟨g, off, none⟩) sz l P) (k : Nat) : ArrA lo hi (some ⟨g, off + k * sz, none⟩) sz (l.drop k) P := fun i hi => by
  obtain ⟨g', off', h1, h2, h3, h4⟩ := h (k + i) (by rw [List.length_drop] at hi; omega)
  obtain ⟨rfl, rfl⟩ : g = g' ∧ off = off' := by simpa using h1
  exact ⟨g, off + k * sz, rfl, h2, h3, fun j x hx => by
    have := h4 (k + j) x (by rw [List.getElem?_drop] at hx; exact hx)
    rwa [Nat.add_mul, ← Nat.add_assoc] at this⟩
theorem OwnX.addr {w : World} {b : Nat} {P : Nat → Prop} {q : Option Addr} {n c : Nat} {L : List Ex} (h : OwnX w b P (.slice q n c) L) : (q = none ∧ n = 0 ∧ c = 0) ∨ ∃ g, q = some ⟨g, 0, none⟩ := by
  obtain ⟨K, h1, -, -⟩ := h
  obtain ⟨-, h2⟩ := h1
  rcases h2 with h2 | ⟨g, cap, cur, hv, -⟩
  · left
    simpa using h2.1
  · right
    exact ⟨g, by simpa using (Value.slice.inj hv).1⟩
structure RCo (w wr : World) (v : Value) (L : List Ex) (i : Nat) : Prop where
  o : OwnX wr w.heap.size (fun k => w.heap.size ≤ k) v (sortE ((L.take i).map Ex.norm))
  r : (L.take i).all rightE = true
  b : Below w.heap.size w wr
theorem RCo.on {w V X : World} {v : Value} {L : List Ex} {i : Nat} (h : RCo w V v L i) (hb : Below V.heap.size V X) : RCo w X v L i := ⟨h.o.later hb, h.r, h.b.trans (hb.mono h.b.size)⟩
theorem RCo.bz {w V : World} {v : Value} {L : List Ex} {i : Nat} (h : RCo w V v L i) : w.heap.size ≤ V.heap.size := h.b.size
set_option maxHeartbeats 8000000 in
theorem rconds_any (L : List Ex) (q : Option Addr) (c : Nat) (w : World) (hL : ExL w q 0 L) (hn : L.length * 104 ≤ 140737488355328) :
    Calls Tryd.prog 13 #[.slice q L.length c] w fun e w' => (∃ v, e = .returned (.tuple #[v, .bool (L.all rightE)]) ∧ OwnX w' w.heap.size (fun k => w.heap.size ≤ k) v (condsE L)) ∧ Below w.heap.size w w' := by
  have HL := Lib.hid hL
  obtain ⟨len, hlen⟩ : ∃ len, len = L.length := ⟨_, rfl⟩
  rw [← hlen] at hn ⊢
  have HLEN := Lib.hid hlen
  have HN := Lib.hid hn
  have hlb : len ≤ 1353245080340 := by omega
  clear hL hlen hn
  go_enter Tryd.func13, Tryd.ntmps13
  go_wp2_with fail
  go_loopw [4, 5] (fun v4 v5 wr => ∃ i : Nat, v5 = .int .i64 i ∧ i ≤ len ∧ Hid (RCo w wr v4 L i)) (fun _ v5 _ => ((len : Int) - intOf v5).toNat)
  case atStart => exact ⟨0, rfl, Nat.zero_le _, OwnX.nil _ _ _, rfl, Below.refl _ _⟩
  case round =>
    obtain ⟨i, rfl, hi, HH⟩ := hrel
    obtain ⟨V, hV⟩ : ∃ V, V = wr := ⟨_, rfl⟩
    rw [← hV] at HH
    rw [← hV]
    clear hV
    have HRC := Lib.hid HH.out
    clear HH
    by_cases hlt : i < len
    · obtain ⟨x, hx⟩ : ∃ x, L[i]? = some x := ⟨_, List.getElem?_eq_getElem (by rw [← HLEN.out]; exact hlt)⟩
      obtain ⟨g0, off0, cs0, hq0, hg0, hx0, hcell⟩ := ExL.at_ (ExL.ext HRC.out.b _ _ _ HL.out) hx
      subst hq0
      have HX0 := Lib.hid hx0
      have HT := Lib.hid (sort_snoc hx)
      have HTR := Lib.hid (show (L.take (i + 1)).all rightE = ((L.take i).all rightE && rightE x) by rw [take_snoc hx, List.all_append]; simp)
      have HXM := Lib.hid (List.mem_of_getElem? hx)
      clear hx
      obtain ⟨op1, v1, rel1, col1, n1, s1, l1⟩ := x
      rw [ExM.iff] at hx0
      obtain ⟨-, qq0, cc0, rfl, -, -⟩ := hx0
      obtain ⟨X0, hX0⟩ : ∃ x, x = Ex.mk op1 v1 rel1 col1 n1 s1 l1 := ⟨_, rfl⟩
      obtain ⟨len1, hl1⟩ : ∃ n, n = l1.length := ⟨_, rfl⟩
      rw [← hX0] at HX0 HT HTR HXM
      rw [← hl1] at HX0 hcell
      have f0 := hcell 0 _ rfl
      have f1 := hcell 1 _ rfl
      have f2 := hcell 2 _ rfl
      have f3 := hcell 3 _ rfl
      have f4 := hcell 4 _ rfl
      have f5 := hcell 5 _ rfl
      have f6 := hcell 6 _ rfl
      have f7 := hcell 7 _ rfl
      have f8 := hcell 8 _ rfl
      simp only [Nat.zero_add, Nat.add_zero] at f0 f1 f2 f3 f4 f5 f6 f7 f8
      clear hcell hX0 hl1
      go_wp2_with fail
      refine (rnormal_any X0 _ V HX0.out).mono ?_
      rintro e X ⟨⟨r, rfl, hr⟩, hbX⟩
      have HVZ := Lib.hid HRC.out.bz
      have HRC := Lib.hid (RCo.on HRC.out hbX)
      have HR := Lib.hid (ExMP.on (Q := fun k => w.heap.size ≤ k) (Nat.le_refl _) (fun _ _ _ => rfl) (fun k hk _ => Nat.le_trans HVZ.out hk) _ _ hr)
      clear f0 f1 f2 f3 f4 f5 f6 f7 f8 hg0 hr hbX HX0
      cases hri : rightE X0 with
      | false =>
        have HZ := Lib.hid (show L.all rightE = false by
          cases h : L.all rightE
          · rfl
          · rw [List.all_eq_true] at h
            have := h _ HXM.out
            rw [hri] at this
            cases this)
        clear hri HR HT HTR
        go_wp2_with fail
        refine bodyPost_ret (v := .tuple #[.slice none 0 0, .bool false]) (by simp [results, Tryd.results13, go_sem]) rfl ⟨⟨_, by rw [HZ.out], ?_⟩, ?_⟩
        · rw [show condsE L = [] by unfold condsE; rw [if_neg (by rw [HZ.out]; decide)]]
          exact OwnX.nil _ _ _
        · exact ext_alloc HRC.out.b (.cells r.cells.toArray 26)
      | true =>
        rw [show normR X0 = X0.norm by unfold normR; rw [if_pos hri]] at HR
        rw [hri, HRC.out.r] at HTR
        have HOK := Lib.hid (show X0.norm.okAll = true ∧ X0.norm.count ≤ 200 by
          have h := rightE_parts hri
          rw [(norm_same X0).1, (norm_same X0).2.2.1]
          exact ⟨h.1, h.2.2⟩)
        obtain ⟨y, hy⟩ : ∃ y, y = X0.norm := ⟨_, rfl⟩
        rw [← hy] at HR HOK HT
        clear hri hy HXM
        obtain ⟨W2, e2, K2, b2, -⟩ := new_block X r.cells 26 _ rfl
        have HE2 := Lib.hid e2
        have HRC := Lib.hid (RCo.on HRC.out b2)
        have HR := Lib.hid (ExMP.up HR.out b2)
        have HK := Lib.hid K2
        obtain ⟨gb, hgb⟩ : ∃ g, g = X.heap.size := ⟨_, rfl⟩
        have HGB := Lib.hid hgb
        rw [← hgb] at HK
        clear e2 K2 b2 hgb
        obtain ⟨opr, ⟨vkr, vnr, vsr⟩, relr, colr, nr, sr, qr, lenr, cr⟩ := r
        go_upto_region 8 with fail
        change Code.wp _ _ _ _ (X.alloc (.cells (RawE.cells ⟨opr, ⟨vkr, vnr, vsr⟩, relr, colr, nr, sr, qr, lenr, cr⟩).toArray 26))
        rw [HE2.out, ← HGB.out]
        clear HE2
        have lt := HK.out.lt
        have k0 := HK.out.c 0 _ rfl
        have k1 := HK.out.c 1 _ rfl
        have k2 := HK.out.c 2 _ rfl
        have k3 := HK.out.c 3 _ rfl
        have k4 := HK.out.c 4 _ rfl
        have k5 := HK.out.c 5 _ rfl
        have k6 := HK.out.c 6 _ rfl
        have k7 := HK.out.c 7 _ rfl
        have k8 := HK.out.c 8 _ rfl
        simp only at k0 k1 k2 k3 k4 k5 k6 k7 k8
        go_wp2_with fail
        refine (rprint_any _ y (Nat.le_refl _) HOK.out.1 HOK.out.2 _ W2 (ExMP.toM _ _ HR.out)).mono ?_
        rintro e W3 ⟨rfl, hb3⟩
        have HRC := Lib.hid (RCo.on HRC.out hb3)
        have HR := Lib.hid (ExMP.up HR.out hb3)
        have HK := Lib.hid (HK.out.on hb3)
        clear lt k0 k1 k2 k3 k4 k5 k6 k7 k8 hb3
        obtain ⟨M, hM⟩ : ∃ M, M = sortE ((L.take i).map Ex.norm) := ⟨_, rfl⟩
        have hml : M.length ≤ i := by
          rw [hM]
          refine Nat.le_trans (sortE_len _) ?_
          rw [List.length_map, List.length_take]
          omega
        have HMR := Lib.hid (show ∀ z ∈ M, rightE z = true by rw [hM]; exact fun z hz => List.all_eq_true.1 (sorted_right HRC.out.r) z hz)
        have HO := Lib.hid (show OwnX W3 w.heap.size (fun k => w.heap.size ≤ k) u4 M by rw [hM]; exact HRC.out.o)
        rw [← hM] at HT
        have HB3 := Lib.hid HRC.out.b
        clear hM HRC
        obtain ⟨qv, cv, rfl, hcap, hcm, -⟩ := HO.out.toL
        obtain ⟨m, hm⟩ : ∃ m, m = M.length := ⟨_, rfl⟩
        rw [← hm] at hml hcap HO ⊢
        have HM := Lib.hid hm
        obtain ⟨P, hP⟩ : ∃ P, P = bsB y.print := ⟨_, rfl⟩
        rw [← hP]
        have HP := Lib.hid hP
        clear hm hP
        go_wp2_with fail
        go_loopw [9] (fun v9 wr => ∃ k : Nat, v9 = .int .i64 k ∧ k ≤ m ∧ Hid ((∀ j z, j < k → M[j]? = some z → Op.bytesLess z.print y.print = true) ∧ Below W3.heap.size W3 wr)) (fun v9 _ => m - (intOf v9).toNat)
        case atStart => exact ⟨0, rfl, Nat.zero_le _, fun j z h => absurd h (by omega), Below.refl _ _⟩
        case round =>
          obtain ⟨k, rfl, hk, HH⟩ := hrel
          obtain ⟨Z, hZ⟩ : ∃ Z, Z = wr := ⟨_, rfl⟩
          rw [← hZ] at HH
          rw [← hZ]
          have HLS := Lib.hid HH.out.1
          have HBZ := Lib.hid HH.out.2
          clear hZ HH
          by_cases hkm : k < m
          · obtain ⟨z, hz⟩ : ∃ z, M[k]? = some z := ⟨_, List.getElem?_eq_getElem (by rw [← HM.out]; exact hkm)⟩
            obtain ⟨qv', cv', e', -, -, hxl⟩ := (HO.out.later HBZ.out).toL
            obtain ⟨rfl, -, rfl⟩ : qv = qv' ∧ m = M.length ∧ cv = cv' := by simpa using e'
            obtain ⟨g1, off1, cs1, hq1, hg1, hx1, hcell⟩ := ExL.at_ hxl hz
            subst hq1
            have HX1 := Lib.hid hx1
            have HZK := Lib.hid hz
            have hzr := rightE_parts (HMR.out z (List.mem_of_getElem? hz))
            have HZR := Lib.hid hzr
            clear hxl hz hzr e'
            have HBL := Lib.hid (show Op.bytesLess (bsB z.print).toList P.toList = Op.bytesLess z.print y.print by rw [HP.out, ByteArray.toList_eq, ByteArray.toList_eq])
            obtain ⟨opz, vz, relz, colz, nz, sz, lz⟩ := z
            rw [ExM.iff] at hx1
            obtain ⟨-, qz, cz, rfl, -, -⟩ := hx1
            obtain ⟨z, hzz⟩ : ∃ z, z = Ex.mk opz vz relz colz nz sz lz := ⟨_, rfl⟩
            obtain ⟨lenz, hlz⟩ : ∃ n, n = lz.length := ⟨_, rfl⟩
            rw [← hzz] at HX1 HZK HZR HBL
            rw [← hlz] at HX1 hcell
            have f0 := hcell 0 _ rfl
            have f1 := hcell 1 _ rfl
            have f2 := hcell 2 _ rfl
            have f3 := hcell 3 _ rfl
            have f4 := hcell 4 _ rfl
            have f5 := hcell 5 _ rfl
            have f6 := hcell 6 _ rfl
            have f7 := hcell 7 _ rfl
            have f8 := hcell 8 _ rfl
            simp only [Nat.zero_add, Nat.add_zero] at f0 f1 f2 f3 f4 f5 f6 f7 f8
            clear hcell hzz hlz
            have HPZ := Lib.hid (fun (W' : World) (h : ExM W' z (exCells opz vz relz colz nz sz qz lenz cz)) => rprint_any _ z (Nat.le_refl _) HZR.out.1 HZR.out.2.2 _ W' h)
            have HEQ := Lib.hid (show (bsB z.print).toList = P.toList ↔ z.print = y.print by rw [HP.out, ByteArray.toList_eq, ByteArray.toList_eq])
            obtain ⟨P2, hP2⟩ : ∃ P2, P2 = bsB z.print := ⟨_, rfl⟩
            rw [← hP2] at HPZ HBL HEQ
            clear hP2
            go_wp2_with fail
            refine (HPZ.out Z HX1.out).mono ?_
            rintro e Z2 ⟨rfl, hb⟩
            have HB2 := Lib.hid hb
            cases hls : Op.bytesLess z.print y.print with
            | true =>
              rw [hls] at HBL
              have HLZ := Lib.hid (show ∀ j y', j < k + 1 → M[j]? = some y' → Op.bytesLess y'.print y.print = true from fun j y' hj hy' => by
                by_cases h : j = k
                · subst h
                  rw [HZK.out] at hy'
                  cases hy'
                  exact hls
                · exact HLS.out j y' (by omega) hy')
              clear hls hb f0 f1 f2 f3 f4 f5 f6 f7 f8 hg1
              have hbl := HBL.out
              go_wp2_with fail
              go_roundw
              case rel => exact ⟨k + 1, by go_num, hkm, HLZ.out, HBZ.out.trans (HB2.out.mono HBZ.out.size)⟩
              case measure => simp [intOf] <;> omega
            | false =>
              rw [hls] at HBL
              have HNL := Lib.hid hls
              have hbl := HBL.out
              have j0 := (hb.cell (p := ⟨g1, _, none⟩) hg1).trans f0
              have j1 := (hb.cell (p := ⟨g1, _, none⟩) hg1).trans f1
              have j2 := (hb.cell (p := ⟨g1, _, none⟩) hg1).trans f2
              have j3 := (hb.cell (p := ⟨g1, _, none⟩) hg1).trans f3
              have j4 := (hb.cell (p := ⟨g1, _, none⟩) hg1).trans f4
              have j5 := (hb.cell (p := ⟨g1, _, none⟩) hg1).trans f5
              have j6 := (hb.cell (p := ⟨g1, _, none⟩) hg1).trans f6
              have j7 := (hb.cell (p := ⟨g1, _, none⟩) hg1).trans f7
              have j8 := (hb.cell (p := ⟨g1, _, none⟩) hg1).trans f8
              clear hls hb f0 f1 f2 f3 f4 f5 f6 f7 f8 hg1
              go_wp2_with fail
              refine (HPZ.out Z2 (ExM.ext HB2.out _ _ HX1.out)).mono ?_
              rintro e Z4 ⟨rfl, hb4⟩
              have HB4 := Lib.hid (HBZ.out.trans ((HB2.out.trans (hb4.mono HB2.out.size)).mono HBZ.out.size))
              clear hb4 j0 j1 j2 j3 j4 j5 j6 j7 j8 hbl HB2 HBL HX1
              have HINS := Lib.hid (ins_at y M k (by rw [← HM.out]; exact hk) HLS.out (fun y' h => by rw [HZK.out] at h; cases h; exact HNL.out))
              cases heq : (P2.toList == P.toList) with
              | true =>
                have HPE := Lib.hid (HEQ.out.1 (by simpa using heq))
                have HRN := Lib.hid (show RCo w Z4 (.slice (some ⟨g1, off1, none⟩) m cv) L (i + 1) from
                  ⟨by rw [HT.out, HINS.out, if_pos ⟨z, HZK.out, HPE.out⟩]; exact HO.out.later HB4.out, HTR.out, HB3.out.trans (HB4.out.mono HB3.out.size)⟩)
                clear HPE HINS
                go_wp2_with fail
                go_roundw
                case rel => exact ⟨i + 1, by go_num, hlt, HRN.out⟩
                case measure => simp [intOf] <;> omega
              | false =>
                have HPE := Lib.hid (fun e => by have := HEQ.out.2 e; rw [this] at heq; simp at heq : ¬ z.print = y.print)
                have HIN := Lib.hid (show insE y M = M.take k ++ y :: M.drop k by rw [HINS.out, if_neg (by rintro ⟨z', h1, h2⟩; rw [HZK.out] at h1; cases h1; exact HPE.out h2)])
                have HBA := Lib.hid HB4.out
                clear HPE HINS HEQ HNL HZK HPZ HZR HB4 HBZ
                have HOA := Lib.hid (HO.out.later HBA.out)
                have HKA := Lib.hid (HK.out.on HBA.out)
                have HYA := Lib.hid (ExMP.up HR.out HBA.out)
                have HZA := Lib.hid (HB3.out.trans (HBA.out.mono HB3.out.size))
                clear HLS HBA
                obtain ⟨K, hK1, hK2, hK3⟩ := HOA.out
                have HSRC := Lib.hid (OwnX.src hK1)
                have HKL := Lib.hid (show K.length = m by rw [hK2, HM.out])
                have HEL := Lib.hid (fun (j : Nat) (r : RawE) (x : Ex) (h1 : K[j]? = some r) (h2 : M[j]? = some x) => ExMP.on (Q := fun kk => w.heap.size ≤ kk ∧ kk < Z4.heap.size) (Nat.le_refl _) (fun _ _ _ => rfl) (fun kk hk hl => ⟨hk.1, hl⟩) _ _ (hK3 j r x h1 h2))
                have HYE := Lib.hid (ExMP.on (Q := fun kk => w.heap.size ≤ kk ∧ kk < Z4.heap.size) (Nat.le_refl _) (fun _ _ _ => rfl) (fun kk hk hl => ⟨hk, hl⟩) _ _ HYA.out)
                clear hK1 hK2 hK3 HYA
                obtain ⟨S0, hS0⟩ : ∃ s, s = Z4.heap.size := ⟨_, rfl⟩
                rw [← hS0] at HEL HYE HSRC
                have HS0 := Lib.hid hS0
                have HSS := Lib.hid hS0
                have HWZ := Lib.hid HZA.out.size
                clear hS0
                go_upto_region 14 with fail
                go_wp2_with (at_builtin; refine wp_append_xs rfl _ _ rfl S0 (fun j => w.heap.size ≤ j ∧ j < S0) (.slice none 0 0) [] (M.take k) rfl (OwnX.nil _ _ _) 0 k rfl (by rw [List.length_take, ← HM.out]; omega) (K.take k) (by rw [List.length_take, List.length_take, HKL.out, ← HM.out]) _ _ w.heap.size S0 rfl (HSRC.out.take k) (fun j r z h1 h2 => ?k1) (by have := HN.out; omega) (Nat.le_of_eq HS0.out) ?_)
                case k1 =>
                  rw [List.getElem?_take] at h1 h2
                  split at h1
                  · rw [if_pos (by assumption)] at h2
                    exact ExMP.on (Nat.le_refl _) (fun _ _ _ => rfl) (fun kk hk _ => ⟨hk, by simp [Value.ownBlock]⟩) _ _ (HEL.out j r z h1 h2)
                  · cases h1
                intro q5 c5 Y hO5 hb5 ho5
                try rw [Nat.zero_add] at hO5
                try rw [Nat.zero_add]
                try rw [List.nil_append] at hO5
                have hbY : Below Z4.heap.size Z4 Y := by rw [← HS0.out]; exact hb5
                have HO5 := Lib.hid hO5
                have HKY := Lib.hid (HKA.out.on hbY)
                have HSY := Lib.hid (HSRC.out.imp (P' := fun g o r => ∀ (kk : Nat) u, r.cells[kk]? = some u → Y.cell? ⟨g, o + kk, none⟩ = some u) (fun g o r _ hg hp kk u hu => (hbY.cell (p := ⟨g, o + kk, none⟩) (by rw [← HS0.out]; exact hg)).trans (hp kk u hu)))
                have HEY := Lib.hid (fun (j : Nat) (r : RawE) (x : Ex) (h1 : K[j]? = some r) (h2 : M[j]? = some x) => ExMP.up (HEL.out j r x h1 h2) hbY)
                have HYY := Lib.hid (ExMP.up HYE.out hbY)
                have HZY := Lib.hid (HZA.out.trans (hbY.mono HZA.out.size))
                have HSZ := Lib.hid (show S0 ≤ Y.heap.size by rw [HS0.out]; exact hbY.size)
                clear hO5 hb5 ho5 hbY HKA HSRC HEL HYE HZA HOA HS0 HO
                go_upto_region 15 with fail
                have lt := HKY.out.lt
                have k0 := HKY.out.c 0 _ rfl
                have k1 := HKY.out.c 1 _ rfl
                have k2 := HKY.out.c 2 _ rfl
                have k3 := HKY.out.c 3 _ rfl
                have k4 := HKY.out.c 4 _ rfl
                have k5 := HKY.out.c 5 _ rfl
                have k6 := HKY.out.c 6 _ rfl
                have k7 := HKY.out.c 7 _ rfl
                have k8 := HKY.out.c 8 _ rfl
                simp only at k0 k1 k2 k3 k4 k5 k6 k7 k8
                have b2 : Below Y.heap.size Y (Y.alloc (.cells (RawE.cells ⟨opr, ⟨vkr, vnr, vsr⟩, relr, colr, nr, sr, qr, lenr, cr⟩).toArray 26)) := ext_alloc (ext_refl _) _
                have HO5A := Lib.hid (HO5.out.later b2)
                have HYA := Lib.hid (ExMP.on (Q := fun j => (w.heap.size ≤ j ∧ j < S0) ∧ (Value.slice q5 k c5).ownBlock ≠ some j) (Nat.le_refl _) (fun _ _ _ => rfl) (fun j hj _ => ⟨hj, fun e => by have := (HO5A.out.lt j e).1; omega⟩) _ _ (ExMP.up HYY.out b2))
                have HSA := Lib.hid (show S0 ≤ (Y.alloc (.cells (RawE.cells ⟨opr, ⟨vkr, vnr, vsr⟩, relr, colr, nr, sr, qr, lenr, cr⟩).toArray 26)).heap.size from Nat.le_trans HSZ.out b2.size)
                have HB2 := Lib.hid b2
                clear b2
                go_wp2_with (at_builtin; refine wp_append_x rfl _ _ rfl S0 (fun j => w.heap.size ≤ j ∧ j < S0) (.slice q5 k c5) (M.take k) rfl HO5A.out k (by rw [List.length_take, ← HM.out]; omega) ⟨opr, ⟨vkr, vnr, vsr⟩, relr, colr, nr, sr, qr, lenr, cr⟩ y _ _ 0 (Y.heap.size + 1) rfl (one_block RawE.cells_len 26 _ ⟨opr, ⟨vkr, vnr, vsr⟩, relr, colr, nr, sr, qr, lenr, cr⟩ rfl _ rfl) HYA.out (by have := HN.out; omega) HSA.out ?_)
                intro q6 c6 Y2 hO6 hb6 ho6
                have hbY : Below Y.heap.size Y Y2 ∨ True := .inr trivial
                have hb2 : Below S0 Y Y2 := (HB2.out.mono HSZ.out).trans hb6
                have HO6 := Lib.hid hO6
                have HSY := Lib.hid (HSY.out.imp (P' := fun g o r => ∀ (kk : Nat) u, r.cells[kk]? = some u → Y2.cell? ⟨g, o + kk, none⟩ = some u) (fun g o r _ hg hp kk u hu => (hb2.cell (p := ⟨g, o + kk, none⟩) hg).trans (hp kk u hu)))
                have HEY := Lib.hid (fun (j : Nat) (r : RawE) (x : Ex) (h1 : K[j]? = some r) (h2 : M[j]? = some x) => ExMP.on (Q := fun j => (w.heap.size ≤ j ∧ j < S0) ∧ (Value.slice q6 (k + 1) c6).ownBlock ≠ some j) hb2.size (fun j hj _ => hb2.block j hj.2) (fun j hj _ => ⟨hj, fun e => by have := (HO6.out.lt j e).1; omega⟩) _ _ (HEY.out j r x h1 h2))
                have HWS := Lib.hid (show w.heap.size ≤ S0 by rw [HSS.out]; exact HWZ.out)
                have HZY := Lib.hid (HZY.out.trans (hb2.mono HWS.out))
                have HSZ := Lib.hid (show S0 ≤ Y2.heap.size from Nat.le_trans HSZ.out hb2.size)
                clear hO6 hb6 ho6 hbY hb2 HB2 HSA HYA HO5A HYY HO5 HKY lt k0 k1 k2 k3 k4 k5 k6 k7 k8
                go_upto_region 16 with fail
                go_wp2_with (at_builtin; refine wp_append_xs rfl _ _ rfl S0 (fun j => w.heap.size ≤ j ∧ j < S0) (.slice q6 (k + 1) c6) (M.take k ++ [y]) (M.drop k) rfl HO6.out (k + 1) (m - k) (by rw [List.length_append, List.length_take, ← HM.out]; simp; omega) (by rw [List.length_drop, ← HM.out]) (K.drop k) (by rw [List.length_drop, List.length_drop, HKL.out, HM.out]) _ _ w.heap.size S0 rfl (HSY.out.drop k) (fun j r z h1 h2 => ?k2) (by have := HN.out; omega) HSZ.out ?_)
                case k2 =>
                  rw [List.getElem?_drop] at h1 h2
                  exact HEY.out _ r z h1 h2
                intro q7 c7 Y3 hO7 hb7 ho7
                have HRN := Lib.hid (show RCo w Y3 (.slice q7 (k + 1 + (m - k)) c7) L (i + 1) from
                  ⟨by rw [HT.out, HIN.out]; exact hO7.weaken HWS.out (fun j hj _ => hj.1), HTR.out, HZY.out.trans (hb7.mono HWS.out)⟩)
                clear hO7 hb7 ho7 HEY HSY HO6
                go_wp2_with fail
                go_roundw
                case rel => exact ⟨i + 1, by go_num, hlt, HRN.out⟩
                case measure => simp [intOf] <;> omega
          · have HKE := Lib.hid (show k = m by omega)
            have HINS := Lib.hid (ins_at y M k (by rw [← HM.out]; exact hk) HLS.out (fun y' h => by rw [List.getElem?_eq_none (by rw [← HM.out]; omega)] at h; cases h))
            have HIN := Lib.hid (show insE y M = M.take k ++ y :: M.drop k by rw [HINS.out, if_neg (by rintro ⟨z', h1, h2⟩; rw [List.getElem?_eq_none (by rw [← HM.out]; omega)] at h1; cases h1)])
            have HBA := Lib.hid HBZ.out
            clear HINS HBZ HKE
            rcases HO.out.addr with ⟨rfl, hm0, hc0⟩ | ⟨g1, rfl⟩
            · have hck : k = cv := by omega
              subst hck
              clear hm0 hc0
              have HOA := Lib.hid (HO.out.later HBA.out)
              have HKA := Lib.hid (HK.out.on HBA.out)
              have HYA := Lib.hid (ExMP.up HR.out HBA.out)
              have HZA := Lib.hid (HB3.out.trans (HBA.out.mono HB3.out.size))
              clear HLS HBA
              obtain ⟨K, hK1, hK2, hK3⟩ := HOA.out
              have HSRC := Lib.hid (OwnX.src hK1)
              have HKL := Lib.hid (show K.length = m by rw [hK2, HM.out])
              have HEL := Lib.hid (fun (j : Nat) (r : RawE) (x : Ex) (h1 : K[j]? = some r) (h2 : M[j]? = some x) => ExMP.on (Q := fun kk => w.heap.size ≤ kk ∧ kk < Z.heap.size) (Nat.le_refl _) (fun _ _ _ => rfl) (fun kk hk hl => ⟨hk.1, hl⟩) _ _ (hK3 j r x h1 h2))
              have HYE := Lib.hid (ExMP.on (Q := fun kk => w.heap.size ≤ kk ∧ kk < Z.heap.size) (Nat.le_refl _) (fun _ _ _ => rfl) (fun kk hk hl => ⟨hk, hl⟩) _ _ HYA.out)
              clear hK1 hK2 hK3 HYA
              obtain ⟨S0, hS0⟩ : ∃ s, s = Z.heap.size := ⟨_, rfl⟩
              rw [← hS0] at HEL HYE HSRC
              have HS0 := Lib.hid hS0
              have HSS := Lib.hid hS0
              have HWZ := Lib.hid HZA.out.size
              clear hS0
              go_upto_region 14 with fail
              go_wp2_with (at_builtin; refine wp_append_xs rfl _ _ rfl S0 (fun j => w.heap.size ≤ j ∧ j < S0) (.slice none 0 0) [] (M.take k) rfl (OwnX.nil _ _ _) 0 k rfl (by rw [List.length_take, ← HM.out]; omega) (K.take k) (by rw [List.length_take, List.length_take, HKL.out, ← HM.out]) _ _ w.heap.size S0 rfl (HSRC.out.take k) (fun j r z h1 h2 => ?k1) (by have := HN.out; omega) (Nat.le_of_eq HS0.out) ?_)
              case k1 =>
                rw [List.getElem?_take] at h1 h2
                split at h1
                · rw [if_pos (by assumption)] at h2
                  exact ExMP.on (Nat.le_refl _) (fun _ _ _ => rfl) (fun kk hk _ => ⟨hk, by simp [Value.ownBlock]⟩) _ _ (HEL.out j r z h1 h2)
                · cases h1
              intro q5 c5 Y hO5 hb5 ho5
              try rw [Nat.zero_add] at hO5
              try rw [Nat.zero_add]
              try rw [List.nil_append] at hO5
              have hbY : Below Z.heap.size Z Y := by rw [← HS0.out]; exact hb5
              have HO5 := Lib.hid hO5
              have HKY := Lib.hid (HKA.out.on hbY)
              have HSY := Lib.hid (HSRC.out.imp (P' := fun g o r => ∀ (kk : Nat) u, r.cells[kk]? = some u → Y.cell? ⟨g, o + kk, none⟩ = some u) (fun g o r _ hg hp kk u hu => (hbY.cell (p := ⟨g, o + kk, none⟩) (by rw [← HS0.out]; exact hg)).trans (hp kk u hu)))
              have HEY := Lib.hid (fun (j : Nat) (r : RawE) (x : Ex) (h1 : K[j]? = some r) (h2 : M[j]? = some x) => ExMP.up (HEL.out j r x h1 h2) hbY)
              have HYY := Lib.hid (ExMP.up HYE.out hbY)
              have HZY := Lib.hid (HZA.out.trans (hbY.mono HZA.out.size))
              have HSZ := Lib.hid (show S0 ≤ Y.heap.size by rw [HS0.out]; exact hbY.size)
              clear hO5 hb5 ho5 hbY HKA HSRC HEL HYE HZA HOA HS0 HO
              go_upto_region 15 with fail
              have lt := HKY.out.lt
              have k0 := HKY.out.c 0 _ rfl
              have k1 := HKY.out.c 1 _ rfl
              have k2 := HKY.out.c 2 _ rfl
              have k3 := HKY.out.c 3 _ rfl
              have k4 := HKY.out.c 4 _ rfl
              have k5 := HKY.out.c 5 _ rfl
              have k6 := HKY.out.c 6 _ rfl
              have k7 := HKY.out.c 7 _ rfl
              have k8 := HKY.out.c 8 _ rfl
              simp only at k0 k1 k2 k3 k4 k5 k6 k7 k8
              have b2 : Below Y.heap.size Y (Y.alloc (.cells (RawE.cells ⟨opr, ⟨vkr, vnr, vsr⟩, relr, colr, nr, sr, qr, lenr, cr⟩).toArray 26)) := ext_alloc (ext_refl _) _
              have HO5A := Lib.hid (HO5.out.later b2)
              have HYA := Lib.hid (ExMP.on (Q := fun j => (w.heap.size ≤ j ∧ j < S0) ∧ (Value.slice q5 k c5).ownBlock ≠ some j) (Nat.le_refl _) (fun _ _ _ => rfl) (fun j hj _ => ⟨hj, fun e => by have := (HO5A.out.lt j e).1; omega⟩) _ _ (ExMP.up HYY.out b2))
              have HSA := Lib.hid (show S0 ≤ (Y.alloc (.cells (RawE.cells ⟨opr, ⟨vkr, vnr, vsr⟩, relr, colr, nr, sr, qr, lenr, cr⟩).toArray 26)).heap.size from Nat.le_trans HSZ.out b2.size)
              have HB2 := Lib.hid b2
              clear b2
              go_wp2_with (at_builtin; refine wp_append_x rfl _ _ rfl S0 (fun j => w.heap.size ≤ j ∧ j < S0) (.slice q5 k c5) (M.take k) rfl HO5A.out k (by rw [List.length_take, ← HM.out]; omega) ⟨opr, ⟨vkr, vnr, vsr⟩, relr, colr, nr, sr, qr, lenr, cr⟩ y _ _ 0 (Y.heap.size + 1) rfl (one_block RawE.cells_len 26 _ ⟨opr, ⟨vkr, vnr, vsr⟩, relr, colr, nr, sr, qr, lenr, cr⟩ rfl _ rfl) HYA.out (by have := HN.out; omega) HSA.out ?_)
              intro q6 c6 Y2 hO6 hb6 ho6
              have hbY : Below Y.heap.size Y Y2 ∨ True := .inr trivial
              have hb2 : Below S0 Y Y2 := (HB2.out.mono HSZ.out).trans hb6
              have HO6 := Lib.hid hO6
              have HSY := Lib.hid (HSY.out.imp (P' := fun g o r => ∀ (kk : Nat) u, r.cells[kk]? = some u → Y2.cell? ⟨g, o + kk, none⟩ = some u) (fun g o r _ hg hp kk u hu => (hb2.cell (p := ⟨g, o + kk, none⟩) hg).trans (hp kk u hu)))
              have HEY := Lib.hid (fun (j : Nat) (r : RawE) (x : Ex) (h1 : K[j]? = some r) (h2 : M[j]? = some x) => ExMP.on (Q := fun j => (w.heap.size ≤ j ∧ j < S0) ∧ (Value.slice q6 (k + 1) c6).ownBlock ≠ some j) hb2.size (fun j hj _ => hb2.block j hj.2) (fun j hj _ => ⟨hj, fun e => by have := (HO6.out.lt j e).1; omega⟩) _ _ (HEY.out j r x h1 h2))
              have HWS := Lib.hid (show w.heap.size ≤ S0 by rw [HSS.out]; exact HWZ.out)
              have HZY := Lib.hid (HZY.out.trans (hb2.mono HWS.out))
              have HSZ := Lib.hid (show S0 ≤ Y2.heap.size from Nat.le_trans HSZ.out hb2.size)
              clear hO6 hb6 ho6 hbY hb2 HB2 HSA HYA HO5A HYY HO5 HKY lt k0 k1 k2 k3 k4 k5 k6 k7 k8
              go_upto_region 16 with fail
              go_wp2_with (at_builtin; refine wp_append_xs rfl _ _ rfl S0 (fun j => w.heap.size ≤ j ∧ j < S0) (.slice q6 (k + 1) c6) (M.take k ++ [y]) (M.drop k) rfl HO6.out (k + 1) 0 (by rw [List.length_append, List.length_take, ← HM.out]; simp; omega) (by rw [List.length_drop, ← HM.out]; omega) (K.drop k) (by rw [List.length_drop, List.length_drop, HKL.out, HM.out]) _ _ w.heap.size S0 rfl (fun i hi => absurd hi (by rw [List.length_drop, HKL.out]; omega)) (fun j r z h1 h2 => ?k2) (by have := HN.out; omega) HSZ.out ?_)
              case k2 =>
                rw [List.getElem?_drop] at h1 h2
                exact HEY.out _ r z h1 h2
              intro q7 c7 Y3 hO7 hb7 ho7
              have HRN := Lib.hid (show RCo w Y3 (.slice q7 (k + 1) c7) L (i + 1) from
                ⟨by rw [HT.out, HIN.out]; exact hO7.weaken HWS.out (fun j hj _ => hj.1), HTR.out, HZY.out.trans (hb7.mono HWS.out)⟩)
              clear hO7 hb7 ho7 HEY HSY HO6
              go_wp2_with fail
              go_roundw
              case rel => exact ⟨i + 1, by go_num, hlt, HRN.out⟩
              case measure => simp [intOf] <;> omega
            · by_cases hck : k = cv
              · subst hck
                have HOA := Lib.hid (HO.out.later HBA.out)
                have HKA := Lib.hid (HK.out.on HBA.out)
                have HYA := Lib.hid (ExMP.up HR.out HBA.out)
                have HZA := Lib.hid (HB3.out.trans (HBA.out.mono HB3.out.size))
                clear HLS HBA
                obtain ⟨K, hK1, hK2, hK3⟩ := HOA.out
                have HSRC := Lib.hid (OwnX.src hK1)
                have HKL := Lib.hid (show K.length = m by rw [hK2, HM.out])
                have HEL := Lib.hid (fun (j : Nat) (r : RawE) (x : Ex) (h1 : K[j]? = some r) (h2 : M[j]? = some x) => ExMP.on (Q := fun kk => w.heap.size ≤ kk ∧ kk < Z.heap.size) (Nat.le_refl _) (fun _ _ _ => rfl) (fun kk hk hl => ⟨hk.1, hl⟩) _ _ (hK3 j r x h1 h2))
                have HYE := Lib.hid (ExMP.on (Q := fun kk => w.heap.size ≤ kk ∧ kk < Z.heap.size) (Nat.le_refl _) (fun _ _ _ => rfl) (fun kk hk hl => ⟨hk, hl⟩) _ _ HYA.out)
                clear hK1 hK2 hK3 HYA
                obtain ⟨S0, hS0⟩ : ∃ s, s = Z.heap.size := ⟨_, rfl⟩
                rw [← hS0] at HEL HYE HSRC
                have HS0 := Lib.hid hS0
                have HSS := Lib.hid hS0
                have HWZ := Lib.hid HZA.out.size
                clear hS0
                go_upto_region 14 with fail
                go_wp2_with (at_builtin; refine wp_append_xs rfl _ _ rfl S0 (fun j => w.heap.size ≤ j ∧ j < S0) (.slice none 0 0) [] (M.take k) rfl (OwnX.nil _ _ _) 0 k rfl (by rw [List.length_take, ← HM.out]; omega) (K.take k) (by rw [List.length_take, List.length_take, HKL.out, ← HM.out]) _ _ w.heap.size S0 rfl (HSRC.out.take k) (fun j r z h1 h2 => ?k1) (by have := HN.out; omega) (Nat.le_of_eq HS0.out) ?_)
                case k1 =>
                  rw [List.getElem?_take] at h1 h2
                  split at h1
                  · rw [if_pos (by assumption)] at h2
                    exact ExMP.on (Nat.le_refl _) (fun _ _ _ => rfl) (fun kk hk _ => ⟨hk, by simp [Value.ownBlock]⟩) _ _ (HEL.out j r z h1 h2)
                  · cases h1
                intro q5 c5 Y hO5 hb5 ho5
                try rw [Nat.zero_add] at hO5
                try rw [Nat.zero_add]
                try rw [List.nil_append] at hO5
                have hbY : Below Z.heap.size Z Y := by rw [← HS0.out]; exact hb5
                have HO5 := Lib.hid hO5
                have HKY := Lib.hid (HKA.out.on hbY)
                have HSY := Lib.hid (HSRC.out.imp (P' := fun g o r => ∀ (kk : Nat) u, r.cells[kk]? = some u → Y.cell? ⟨g, o + kk, none⟩ = some u) (fun g o r _ hg hp kk u hu => (hbY.cell (p := ⟨g, o + kk, none⟩) (by rw [← HS0.out]; exact hg)).trans (hp kk u hu)))
                have HEY := Lib.hid (fun (j : Nat) (r : RawE) (x : Ex) (h1 : K[j]? = some r) (h2 : M[j]? = some x) => ExMP.up (HEL.out j r x h1 h2) hbY)
                have HYY := Lib.hid (ExMP.up HYE.out hbY)
                have HZY := Lib.hid (HZA.out.trans (hbY.mono HZA.out.size))
                have HSZ := Lib.hid (show S0 ≤ Y.heap.size by rw [HS0.out]; exact hbY.size)
                clear hO5 hb5 ho5 hbY HKA HSRC HEL HYE HZA HOA HS0 HO
                go_upto_region 15 with fail
                have lt := HKY.out.lt
                have k0 := HKY.out.c 0 _ rfl
                have k1 := HKY.out.c 1 _ rfl
                have k2 := HKY.out.c 2 _ rfl
                have k3 := HKY.out.c 3 _ rfl
                have k4 := HKY.out.c 4 _ rfl
                have k5 := HKY.out.c 5 _ rfl
                have k6 := HKY.out.c 6 _ rfl
                have k7 := HKY.out.c 7 _ rfl
                have k8 := HKY.out.c 8 _ rfl
                simp only at k0 k1 k2 k3 k4 k5 k6 k7 k8
                have b2 : Below Y.heap.size Y (Y.alloc (.cells (RawE.cells ⟨opr, ⟨vkr, vnr, vsr⟩, relr, colr, nr, sr, qr, lenr, cr⟩).toArray 26)) := ext_alloc (ext_refl _) _
                have HO5A := Lib.hid (HO5.out.later b2)
                have HYA := Lib.hid (ExMP.on (Q := fun j => (w.heap.size ≤ j ∧ j < S0) ∧ (Value.slice q5 k c5).ownBlock ≠ some j) (Nat.le_refl _) (fun _ _ _ => rfl) (fun j hj _ => ⟨hj, fun e => by have := (HO5A.out.lt j e).1; omega⟩) _ _ (ExMP.up HYY.out b2))
                have HSA := Lib.hid (show S0 ≤ (Y.alloc (.cells (RawE.cells ⟨opr, ⟨vkr, vnr, vsr⟩, relr, colr, nr, sr, qr, lenr, cr⟩).toArray 26)).heap.size from Nat.le_trans HSZ.out b2.size)
                have HB2 := Lib.hid b2
                clear b2
                go_wp2_with (at_builtin; refine wp_append_x rfl _ _ rfl S0 (fun j => w.heap.size ≤ j ∧ j < S0) (.slice q5 k c5) (M.take k) rfl HO5A.out k (by rw [List.length_take, ← HM.out]; omega) ⟨opr, ⟨vkr, vnr, vsr⟩, relr, colr, nr, sr, qr, lenr, cr⟩ y _ _ 0 (Y.heap.size + 1) rfl (one_block RawE.cells_len 26 _ ⟨opr, ⟨vkr, vnr, vsr⟩, relr, colr, nr, sr, qr, lenr, cr⟩ rfl _ rfl) HYA.out (by have := HN.out; omega) HSA.out ?_)
                intro q6 c6 Y2 hO6 hb6 ho6
                have hbY : Below Y.heap.size Y Y2 ∨ True := .inr trivial
                have hb2 : Below S0 Y Y2 := (HB2.out.mono HSZ.out).trans hb6
                have HO6 := Lib.hid hO6
                have HSY := Lib.hid (HSY.out.imp (P' := fun g o r => ∀ (kk : Nat) u, r.cells[kk]? = some u → Y2.cell? ⟨g, o + kk, none⟩ = some u) (fun g o r _ hg hp kk u hu => (hb2.cell (p := ⟨g, o + kk, none⟩) hg).trans (hp kk u hu)))
                have HEY := Lib.hid (fun (j : Nat) (r : RawE) (x : Ex) (h1 : K[j]? = some r) (h2 : M[j]? = some x) => ExMP.on (Q := fun j => (w.heap.size ≤ j ∧ j < S0) ∧ (Value.slice q6 (k + 1) c6).ownBlock ≠ some j) hb2.size (fun j hj _ => hb2.block j hj.2) (fun j hj _ => ⟨hj, fun e => by have := (HO6.out.lt j e).1; omega⟩) _ _ (HEY.out j r x h1 h2))
                have HWS := Lib.hid (show w.heap.size ≤ S0 by rw [HSS.out]; exact HWZ.out)
                have HZY := Lib.hid (HZY.out.trans (hb2.mono HWS.out))
                have HSZ := Lib.hid (show S0 ≤ Y2.heap.size from Nat.le_trans HSZ.out hb2.size)
                clear hO6 hb6 ho6 hbY hb2 HB2 HSA HYA HO5A HYY HO5 HKY lt k0 k1 k2 k3 k4 k5 k6 k7 k8
                go_upto_region 16 with fail
                go_wp2_with (at_builtin; refine wp_append_xs rfl _ _ rfl S0 (fun j => w.heap.size ≤ j ∧ j < S0) (.slice q6 (k + 1) c6) (M.take k ++ [y]) (M.drop k) rfl HO6.out (k + 1) 0 (by rw [List.length_append, List.length_take, ← HM.out]; simp; omega) (by rw [List.length_drop, ← HM.out]; omega) (K.drop k) (by rw [List.length_drop, List.length_drop, HKL.out, HM.out]) _ _ w.heap.size S0 rfl (fun i hi => absurd hi (by rw [List.length_drop, HKL.out]; omega)) (fun j r z h1 h2 => ?k2) (by have := HN.out; omega) HSZ.out ?_)
                case k2 =>
                  rw [List.getElem?_drop] at h1 h2
                  exact HEY.out _ r z h1 h2
                intro q7 c7 Y3 hO7 hb7 ho7
                have HRN := Lib.hid (show RCo w Y3 (.slice q7 (k + 1) c7) L (i + 1) from
                  ⟨by rw [HT.out, HIN.out]; exact hO7.weaken HWS.out (fun j hj _ => hj.1), HTR.out, HZY.out.trans (hb7.mono HWS.out)⟩)
                clear hO7 hb7 ho7 HEY HSY HO6
                go_wp2_with fail
                go_roundw
                case rel => exact ⟨i + 1, by go_num, hlt, HRN.out⟩
                case measure => simp [intOf] <;> omega
              · have hck : ¬ cv = k := fun h => hck h.symm
                have HOA := Lib.hid (HO.out.later HBA.out)
                have HKA := Lib.hid (HK.out.on HBA.out)
                have HYA := Lib.hid (ExMP.up HR.out HBA.out)
                have HZA := Lib.hid (HB3.out.trans (HBA.out.mono HB3.out.size))
                clear HLS HBA
                obtain ⟨K, hK1, hK2, hK3⟩ := HOA.out
                have HSRC := Lib.hid (OwnX.src hK1)
                have HKL := Lib.hid (show K.length = m by rw [hK2, HM.out])
                have HEL := Lib.hid (fun (j : Nat) (r : RawE) (x : Ex) (h1 : K[j]? = some r) (h2 : M[j]? = some x) => ExMP.on (Q := fun kk => w.heap.size ≤ kk ∧ kk < Z.heap.size) (Nat.le_refl _) (fun _ _ _ => rfl) (fun kk hk hl => ⟨hk.1, hl⟩) _ _ (hK3 j r x h1 h2))
                have HYE := Lib.hid (ExMP.on (Q := fun kk => w.heap.size ≤ kk ∧ kk < Z.heap.size) (Nat.le_refl _) (fun _ _ _ => rfl) (fun kk hk hl => ⟨hk, hl⟩) _ _ HYA.out)
                clear hK1 hK2 hK3 HYA
                obtain ⟨S0, hS0⟩ : ∃ s, s = Z.heap.size := ⟨_, rfl⟩
                rw [← hS0] at HEL HYE HSRC
                have HS0 := Lib.hid hS0
                have HSS := Lib.hid hS0
                have HWZ := Lib.hid HZA.out.size
                clear hS0
                go_upto_region 14 with fail
                go_wp2_with (at_builtin; refine wp_append_xs rfl _ _ rfl S0 (fun j => w.heap.size ≤ j ∧ j < S0) (.slice none 0 0) [] (M.take k) rfl (OwnX.nil _ _ _) 0 k rfl (by rw [List.length_take, ← HM.out]; omega) (K.take k) (by rw [List.length_take, List.length_take, HKL.out, ← HM.out]) _ _ w.heap.size S0 rfl (HSRC.out.take k) (fun j r z h1 h2 => ?k1) (by have := HN.out; omega) (Nat.le_of_eq HS0.out) ?_)
                case k1 =>
                  rw [List.getElem?_take] at h1 h2
                  split at h1
                  · rw [if_pos (by assumption)] at h2
                    exact ExMP.on (Nat.le_refl _) (fun _ _ _ => rfl) (fun kk hk _ => ⟨hk, by simp [Value.ownBlock]⟩) _ _ (HEL.out j r z h1 h2)
                  · cases h1
                intro q5 c5 Y hO5 hb5 ho5
                try rw [Nat.zero_add] at hO5
                try rw [Nat.zero_add]
                try rw [List.nil_append] at hO5
                have hbY : Below Z.heap.size Z Y := by rw [← HS0.out]; exact hb5
                have HO5 := Lib.hid hO5
                have HKY := Lib.hid (HKA.out.on hbY)
                have HSY := Lib.hid (HSRC.out.imp (P' := fun g o r => ∀ (kk : Nat) u, r.cells[kk]? = some u → Y.cell? ⟨g, o + kk, none⟩ = some u) (fun g o r _ hg hp kk u hu => (hbY.cell (p := ⟨g, o + kk, none⟩) (by rw [← HS0.out]; exact hg)).trans (hp kk u hu)))
                have HEY := Lib.hid (fun (j : Nat) (r : RawE) (x : Ex) (h1 : K[j]? = some r) (h2 : M[j]? = some x) => ExMP.up (HEL.out j r x h1 h2) hbY)
                have HYY := Lib.hid (ExMP.up HYE.out hbY)
                have HZY := Lib.hid (HZA.out.trans (hbY.mono HZA.out.size))
                have HSZ := Lib.hid (show S0 ≤ Y.heap.size by rw [HS0.out]; exact hbY.size)
                clear hO5 hb5 ho5 hbY HKA HSRC HEL HYE HZA HOA HS0 HO
                go_upto_region 15 with fail
                have lt := HKY.out.lt
                have k0 := HKY.out.c 0 _ rfl
                have k1 := HKY.out.c 1 _ rfl
                have k2 := HKY.out.c 2 _ rfl
                have k3 := HKY.out.c 3 _ rfl
                have k4 := HKY.out.c 4 _ rfl
                have k5 := HKY.out.c 5 _ rfl
                have k6 := HKY.out.c 6 _ rfl
                have k7 := HKY.out.c 7 _ rfl
                have k8 := HKY.out.c 8 _ rfl
                simp only at k0 k1 k2 k3 k4 k5 k6 k7 k8
                have b2 : Below Y.heap.size Y (Y.alloc (.cells (RawE.cells ⟨opr, ⟨vkr, vnr, vsr⟩, relr, colr, nr, sr, qr, lenr, cr⟩).toArray 26)) := ext_alloc (ext_refl _) _
                have HO5A := Lib.hid (HO5.out.later b2)
                have HYA := Lib.hid (ExMP.on (Q := fun j => (w.heap.size ≤ j ∧ j < S0) ∧ (Value.slice q5 k c5).ownBlock ≠ some j) (Nat.le_refl _) (fun _ _ _ => rfl) (fun j hj _ => ⟨hj, fun e => by have := (HO5A.out.lt j e).1; omega⟩) _ _ (ExMP.up HYY.out b2))
                have HSA := Lib.hid (show S0 ≤ (Y.alloc (.cells (RawE.cells ⟨opr, ⟨vkr, vnr, vsr⟩, relr, colr, nr, sr, qr, lenr, cr⟩).toArray 26)).heap.size from Nat.le_trans HSZ.out b2.size)
                have HB2 := Lib.hid b2
                clear b2
                go_wp2_with (at_builtin; refine wp_append_x rfl _ _ rfl S0 (fun j => w.heap.size ≤ j ∧ j < S0) (.slice q5 k c5) (M.take k) rfl HO5A.out k (by rw [List.length_take, ← HM.out]; omega) ⟨opr, ⟨vkr, vnr, vsr⟩, relr, colr, nr, sr, qr, lenr, cr⟩ y _ _ 0 (Y.heap.size + 1) rfl (one_block RawE.cells_len 26 _ ⟨opr, ⟨vkr, vnr, vsr⟩, relr, colr, nr, sr, qr, lenr, cr⟩ rfl _ rfl) HYA.out (by have := HN.out; omega) HSA.out ?_)
                intro q6 c6 Y2 hO6 hb6 ho6
                have hbY : Below Y.heap.size Y Y2 ∨ True := .inr trivial
                have hb2 : Below S0 Y Y2 := (HB2.out.mono HSZ.out).trans hb6
                have HO6 := Lib.hid hO6
                have HSY := Lib.hid (HSY.out.imp (P' := fun g o r => ∀ (kk : Nat) u, r.cells[kk]? = some u → Y2.cell? ⟨g, o + kk, none⟩ = some u) (fun g o r _ hg hp kk u hu => (hb2.cell (p := ⟨g, o + kk, none⟩) hg).trans (hp kk u hu)))
                have HEY := Lib.hid (fun (j : Nat) (r : RawE) (x : Ex) (h1 : K[j]? = some r) (h2 : M[j]? = some x) => ExMP.on (Q := fun j => (w.heap.size ≤ j ∧ j < S0) ∧ (Value.slice q6 (k + 1) c6).ownBlock ≠ some j) hb2.size (fun j hj _ => hb2.block j hj.2) (fun j hj _ => ⟨hj, fun e => by have := (HO6.out.lt j e).1; omega⟩) _ _ (HEY.out j r x h1 h2))
                have HWS := Lib.hid (show w.heap.size ≤ S0 by rw [HSS.out]; exact HWZ.out)
                have HZY := Lib.hid (HZY.out.trans (hb2.mono HWS.out))
                have HSZ := Lib.hid (show S0 ≤ Y2.heap.size from Nat.le_trans HSZ.out hb2.size)
                clear hO6 hb6 ho6 hbY hb2 HB2 HSA HYA HO5A HYY HO5 HKY lt k0 k1 k2 k3 k4 k5 k6 k7 k8
                go_upto_region 16 with fail
                go_wp2_with (at_builtin; refine wp_append_xs rfl _ _ rfl S0 (fun j => w.heap.size ≤ j ∧ j < S0) (.slice q6 (k + 1) c6) (M.take k ++ [y]) (M.drop k) rfl HO6.out (k + 1) (m - k) (by rw [List.length_append, List.length_take, ← HM.out]; simp; omega) (by rw [List.length_drop, ← HM.out]) (K.drop k) (by rw [List.length_drop, List.length_drop, HKL.out, HM.out]) _ _ w.heap.size S0 rfl (fun i hi => absurd hi (by rw [List.length_drop, HKL.out]; omega)) (fun j r z h1 h2 => ?k2) (by have := HN.out; omega) HSZ.out ?_)
                case k2 =>
                  rw [List.getElem?_drop] at h1 h2
                  exact HEY.out _ r z h1 h2
                intro q7 c7 Y3 hO7 hb7 ho7
                have HRN := Lib.hid (show RCo w Y3 (.slice q7 (k + 1 + (m - k)) c7) L (i + 1) from
                  ⟨by rw [HT.out, HIN.out]; exact hO7.weaken HWS.out (fun j hj _ => hj.1), HTR.out, HZY.out.trans (hb7.mono HWS.out)⟩)
                clear hO7 hb7 ho7 HEY HSY HO6
                go_wp2_with fail
                go_roundw
                case rel => exact ⟨i + 1, by go_num, hlt, HRN.out⟩
                case measure => simp [intOf] <;> omega
    · have hr := HRC.out.r
      have ho := HRC.out.o
      have hb := HRC.out.b
      rw [show i = L.length by rw [← HLEN.out]; omega, List.take_length] at hr ho
      have HR2 := Lib.hid hr
      have HO2 := Lib.hid (show OwnX V w.heap.size (fun k => w.heap.size ≤ k) u4 (condsE L) by unfold condsE; rw [if_pos hr]; exact ho)
      have HB2 := Lib.hid hb
      clear hr ho hb HRC
      go_wp2_with fail
      refine bodyPost_ret (v := .tuple #[u4, .bool true]) (by simp [results, Tryd.results13, go_sem]) rfl ⟨⟨_, by rw [HR2.out], HO2.out⟩, HB2.out⟩
end Go.Proofs.YtklgoajgchfmeaaDoor
