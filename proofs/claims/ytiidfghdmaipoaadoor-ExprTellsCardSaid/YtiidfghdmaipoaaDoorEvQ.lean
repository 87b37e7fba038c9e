/- Values and kinds of expressions, told by plain functions: a value hangs on the tables alone that are referred to; what has a kind has a value of that kind, or NULL, or an error of reckoning. No program is walked here. -/
import Derived.Test.YtiidfghdmaipoaaDoorDvM
import Derived.Test.YtiidfghdmaipoaaDoorExT
namespace Go.Proofs.YtiidfghdmaipoaaDoor

theorem leafV_set {op rel col n : Int} {cols : List (List Val)} {ps : List Val} (w : Nat) (o : List Val) (h : op = 2 → rel.toNat ≠ w) : leafV op rel col n (cols.set w o) ps = leafV op rel col n cols ps := by
  unfold leafV
  split
  · rename_i e
    rw [List.getElem?_set_ne (fun e' => h e e'.symm)]
  · rfl
theorem tabs_ne {op : Int} {v : Val} {rel col n : Int} {s : ByteArray} {l : List Ex} {w : Nat} (h : (Ex.mk op v rel col n s l).tabs.testBit w = false) : (op = 2 → rel.toNat ≠ w) ∧ (tabsL l).testBit w = false := by
  rw [Ex.tabs, Nat.testBit_or, Bool.or_eq_false_iff] at h
  refine ⟨fun e he => ?_, h.2⟩
  have h1 := h.1
  rw [if_pos e, he, Nat.testBit_two_pow_self] at h1
  cases h1
mutual
theorem eval_set {cols : List (List Val)} {ps : List Val} (w : Nat) (o : List Val) : ∀ x : Ex, x.tabs.testBit w = false → evalE (cols.set w o) ps x = evalE cols ps x
  | .mk op v rel col n s l, h => by
    obtain ⟨h1, h2⟩ := tabs_ne h
    rw [evalE, evalE, leafV_set w o h1, evalL_set w o l h2]
theorem evalL_set {cols : List (List Val)} {ps : List Val} (w : Nat) (o : List Val) : ∀ l : List Ex, (tabsL l).testBit w = false → evalL (cols.set w o) ps l = evalL cols ps l
  | [], _ => by rw [evalL, evalL]
  | x :: r, h => by
    rw [tabsL, Nat.testBit_or, Bool.or_eq_false_iff] at h
    rw [evalL, evalL, eval_set w o x h.1, evalL_set w o r h.2]
end
mutual
theorem there_set {cols : List (List Val)} {ps : List Val} (w : Nat) (o : List Val) : ∀ x : Ex, x.tabs.testBit w = false → thereE (cols.set w o) ps x = thereE cols ps x
  | .mk op v rel col n s l, h => by
    obtain ⟨h1, h2⟩ := tabs_ne h
    rw [thereE, thereE, leafV_set w o h1, thereL_set w o l h2]
theorem thereL_set {cols : List (List Val)} {ps : List Val} (w : Nat) (o : List Val) : ∀ l : List Ex, (tabsL l).testBit w = false → thereL (cols.set w o) ps l = thereL cols ps l
  | [], _ => by rw [thereL, thereL]
  | x :: r, h => by
    rw [tabsL, Nat.testBit_or, Bool.or_eq_false_iff] at h
    rw [thereL, thereL, there_set w o x h.1, thereL_set w o r h.2]
end
theorem evalR_set {cols : List (List Val)} {ps : List Val} (w : Nat) (o : List Val) {x : Ex} (h : x.tabs.testBit w = false) : evalR (cols.set w o) ps x = evalR cols ps x := by
  unfold evalR
  rw [eval_set w o x h, there_set w o x h]

/-! Kinds and values. -/
def kindsOf (cols : List (List Val)) : List (List Int) := cols.map fun l => l.map Val.k
theorem leaf_kind {op rel col n : Int} {cols : List (List Val)} {ps : List Val} (h : op = 2 ∨ op = 3) : leafK op rel col n (kindsOf cols) (ps.map Val.k) = (leafV op rel col n cols ps).map Val.k := by
  unfold leafK leafV kindsOf
  rcases h with h | h
  · rw [if_pos h, if_pos h, List.getElem?_map]
    cases cols[rel.toNat]? with
    | none => rfl
    | some l => simp [List.getElem?_map]
  · have h2 : ¬ op = 2 := by omega
    rw [if_neg h2, if_pos h, if_neg h2, if_pos h, List.getElem?_map]
theorem leafV_right {op rel col n : Int} {cols : List (List Val)} {ps : List Val} (hc : ∀ l ∈ cols, ∀ v ∈ l, v.right = true) (hp : ∀ v ∈ ps, v.right = true) (h : op = 2 ∨ op = 3) {v : Val} (hv : leafV op rel col n cols ps = some v) : v.right = true := by
  unfold leafV at hv
  split at hv
  · cases h1 : cols[rel.toNat]? with
    | none => rw [h1] at hv; cases hv
    | some l =>
      rw [h1, Option.bind_some] at hv
      exact hc l (List.mem_of_getElem? h1) v (List.mem_of_getElem? hv)
  · rw [if_pos (by omega)] at hv
    exact hp v (List.mem_of_getElem? hv)
/-- A value that fits its kind. -/
def Fits (k : Int) (v : Val) : Prop := v.right = true ∧ (v.k = k ∨ v.k = 0)
theorem Fits.nullOr {k c : Int} {v : Val} (h : Fits k v) (hk : (k == c || k == 0) = true) : v.nullOr c = true := by
  unfold Val.nullOr
  rw [h.1, Bool.true_and]
  simp only [Bool.or_eq_true, beq_iff_eq] at hk ⊢
  rcases h.2 with e | e
  · rw [e]; exact hk.symm
  · exact .inl e
theorem right_nul : Val.right nul = true := by simp [Val.right]
theorem right_num (z : Int) : Val.right (num z) = true := by simp [Val.right]
theorem right_bit (b : Bool) : Val.right (tru (bit b)) = true := by cases b <;> simp [Val.right, bit]
theorem arith_fits {op : Int} {x y : Val} (hx : x.nullOr 1 = true) (hy : y.nullOr 1 = true) : ((arith op x y).2 = 0 → Fits 1 (arith op x y).1) ∧ ((arith op x y).2 ≠ 0 → (arith op x y).2 = 3 ∨ (arith op x y).2 = 4) := by
  unfold arith
  rw [hx, hy, Bool.and_self, if_pos rfl]
  split
  · exact ⟨fun _ => ⟨right_nul, .inr rfl⟩, fun h => absurd rfl h⟩
  · split
    · exact ⟨fun h => absurd h (by decide), fun _ => .inr rfl⟩
    · split
      · exact ⟨fun _ => ⟨right_num _, .inl rfl⟩, fun h => absurd rfl h⟩
      · exact ⟨fun h => absurd h (by decide), fun _ => .inl rfl⟩
theorem conn_fits {d o : Int} {x y : Val} (hx : x.nullOr 2 = true) (hy : y.nullOr 2 = true) (hd : Val.right (tru d) = true) (ho : Val.right (tru o) = true) : (conn d o x y).2 = 0 ∧ Fits 2 (conn d o x y).1 := by
  unfold conn
  rw [hx, hy, Bool.and_self, if_pos rfl]
  split
  · exact ⟨rfl, hd, .inl rfl⟩
  · split
    · exact ⟨rfl, right_nul, .inr rfl⟩
    · exact ⟨rfl, ho, .inl rfl⟩
theorem not_fits {x : Val} (hx : x.nullOr 2 = true) : (notS x).2 = 0 ∧ Fits 2 (notS x).1 := by
  unfold notS
  rw [if_pos hx]
  split
  · exact ⟨rfl, right_nul, .inr rfl⟩
  · rename_i h0
    refine ⟨rfl, ?_, .inl rfl⟩
    obtain ⟨hr, h2⟩ := nullOr_parts hx
    have hk : x.k = 2 := h2.resolve_left (by simpa using h0)
    unfold Val.right at hr
    rw [hk] at hr
    simp at hr
    rcases hr.1 with e | e
    · rw [e]; simp [Val.right]
    · rw [e]; simp [Val.right]
theorem test_fits {op : Int} {x y : Val} (h9 : 9 ≤ op) (h14 : op ≤ 14) (hx : x.right = true) (hy : y.right = true) (hk : x.k = 0 ∨ y.k = 0 ∨ x.k = y.k) : (testS op x y).2 = 0 ∧ Fits 2 (testS op x y).1 := by
  have ht : testable op x y = true := by
    unfold testable
    rw [decide_eq_true h9, decide_eq_true h14, hx, hy]
    simp only [Bool.true_and, Bool.or_eq_true, beq_iff_eq]
    rcases hk with h | h | h
    · exact .inl (.inl h)
    · exact .inl (.inr h)
    · exact .inr h
  unfold testS
  rw [ht, if_pos rfl]
  split
  · exact ⟨rfl, right_nul, .inr rfl⟩
  · exact ⟨rfl, right_bit _, .inl rfl⟩

/-- What a list of operands gives: values that fit the kinds, or an error of reckoning. -/
inductive FitL : List Int → List Val → Prop where
  | nil : FitL [] []
  | cons {k : Int} {v : Val} {ks : List Int} {vs : List Val} : Fits k v → FitL ks vs → FitL (k :: ks) (v :: vs)
def BadL (l : List Ex) (e : Int) : Prop := safeL l = false ∧ (e = 3 ∨ e = 4)
theorem apply_fits {op : Int} {ks : List Int} {vs : List Val} (h4 : 4 ≤ op) (h18 : op ≤ 18) (hw : wantsOf op = (ks.length : Int)) (hs : suitK op ks = true) (hf : FitL ks vs) :
    ((applyS op (vs.getD 0 zeroVal) (vs.getD 1 zeroVal)).2 = 0 → Fits (yieldsK op) (applyS op (vs.getD 0 zeroVal) (vs.getD 1 zeroVal)).1) ∧ ((applyS op (vs.getD 0 zeroVal) (vs.getD 1 zeroVal)).2 ≠ 0 → op ≤ 8 ∧ ((applyS op (vs.getD 0 zeroVal) (vs.getD 1 zeroVal)).2 = 3 ∨ (applyS op (vs.getD 0 zeroVal) (vs.getD 1 zeroVal)).2 = 4)) := by
  have none0 : (0 : Int) ≤ 0 := Int.le_refl _
  have len2 : ks.length ≤ 2 := by
    unfold wantsOf at hw
    split at hw
    · omega
    · split at hw
      · omega
      · split at hw <;> omega
  have hlen : (op = 8 ∨ op = 17 ∨ op = 18) ∧ ks.length = 1 ∨ ¬ (op = 8 ∨ op = 17 ∨ op = 18) ∧ ks.length = 2 := by
    unfold wantsOf at hw
    rw [if_neg (by omega), if_neg (by omega)] at hw
    split at hw
    · rename_i e
      exact .inl ⟨e, by omega⟩
    · rename_i e
      exact .inr ⟨e, by omega⟩
  have good : ∀ {r : Val × Int} {k : Int}, r.2 = 0 ∧ Fits k r.1 → yieldsK op = k → (r.2 = 0 → Fits (yieldsK op) r.1) ∧ (r.2 ≠ 0 → op ≤ 8 ∧ (r.2 = 3 ∨ r.2 = 4)) := fun h e => ⟨fun _ => by rw [e]; exact h.2, fun h' => absurd h.1 h'⟩
  match hf, hlen with
  | .nil, hlen => simp at hlen
  | .cons (k := k) (v := x) hx .nil, hlen =>
    have e := hlen.resolve_right (fun h => by simp at h)
    rcases e.1 with rfl | rfl | rfl
    · have hk : (k == 1 || k == 0) = true := by simpa [suitK] using hs
      have h := arith_fits (op := 5) (x := num 0) (y := x) (by simp [Val.nullOr, Val.right]) (hx.nullOr hk)
      exact ⟨h.1, fun h' => ⟨by decide, h.2 h'⟩⟩
    · have hk : (k == 2 || k == 0) = true := by simpa [suitK] using hs
      exact good (not_fits (hx.nullOr hk)) rfl
    · exact good ⟨rfl, right_bit _, .inl rfl⟩ rfl
  | .cons (k := k) (v := x) hx (.cons (k := m) (v := y) hy .nil), hlen =>
    have e := hlen.resolve_left (fun h => by simp at h)
    have hr : op = 4 ∨ op = 5 ∨ op = 6 ∨ op = 7 ∨ (9 ≤ op ∧ op ≤ 14) ∨ op = 15 ∨ op = 16 := by omega
    simp only [List.getD_cons_zero, List.getD_cons_succ]
    rcases hr with rfl | rfl | rfl | rfl | ⟨h9, h14⟩ | rfl | rfl
    · have hk : (k == 1 || k == 0) = true ∧ (m == 1 || m == 0) = true := by simpa [suitK] using hs
      have h := arith_fits (op := 4) (hx.nullOr hk.1) (hy.nullOr hk.2)
      exact ⟨h.1, fun h' => ⟨by decide, h.2 h'⟩⟩
    · have hk : (k == 1 || k == 0) = true ∧ (m == 1 || m == 0) = true := by simpa [suitK] using hs
      have h := arith_fits (op := 5) (hx.nullOr hk.1) (hy.nullOr hk.2)
      exact ⟨h.1, fun h' => ⟨by decide, h.2 h'⟩⟩
    · have hk : (k == 1 || k == 0) = true ∧ (m == 1 || m == 0) = true := by simpa [suitK] using hs
      have h := arith_fits (op := 6) (hx.nullOr hk.1) (hy.nullOr hk.2)
      exact ⟨h.1, fun h' => ⟨by decide, h.2 h'⟩⟩
    · have hk : (k == 1 || k == 0) = true ∧ (m == 1 || m == 0) = true := by simpa [suitK] using hs
      have h := arith_fits (op := 7) (hx.nullOr hk.1) (hy.nullOr hk.2)
      exact ⟨h.1, fun h' => ⟨by decide, h.2 h'⟩⟩
    · have ha : applyS op x y = testS op x y := by
        unfold applyS
        rw [if_neg (by omega), if_neg (by omega), if_neg (by omega), if_neg (by omega), if_neg (by omega), if_neg (by omega), if_neg (by omega), if_neg (by omega), if_neg (by omega)]
      rw [ha]
      refine good (test_fits h9 h14 hx.1 hy.1 ?_) (by unfold yieldsK; rw [if_neg (by omega)])
      unfold suitK at hs
      rw [if_neg (by omega), if_pos h14] at hs
      simp only [List.getD_cons_zero, List.getD_cons_succ, Bool.or_eq_true, beq_iff_eq] at hs
      rcases hx.2 with a | a
      · rcases hy.2 with b | b
        · rcases hs with (h | h) | h
          · exact .inr (.inr (by rw [a, b, h]))
          · exact .inl (by rw [a, h])
          · exact .inr (.inl (by rw [b, h]))
        · exact .inr (.inl b)
      · exact .inl a
    · have hk : (k == 2 || k == 0) = true ∧ (m == 2 || m == 0) = true := by simpa [suitK] using hs
      exact good (conn_fits (hx.nullOr hk.1) (hy.nullOr hk.2) (by simp [Val.right]) (by simp [Val.right])) rfl
    · have hk : (k == 2 || k == 0) = true ∧ (m == 2 || m == 0) = true := by simpa [suitK] using hs
      exact good (conn_fits (hx.nullOr hk.1) (hy.nullOr hk.2) (by simp [Val.right]) (by simp [Val.right])) rfl
  | .cons _ (.cons _ (.cons _ _)), hlen => simp at hlen

theorem kindL_len {cols : List (List Int)} {ps : List Int} : ∀ (l : List Ex) (ks : List Int), kindL cols ps l = some ks → ks.length = l.length
  | [], ks, h => by rw [kindL] at h; cases h; rfl
  | x :: r, ks, h => by
    rw [kindL] at h
    cases h1 : kindE cols ps x with
    | none => rw [h1] at h; cases h
    | some k =>
      rw [h1] at h
      simp only at h
      cases h2 : kindL cols ps r with
      | none => rw [h2] at h; cases h
      | some ms =>
        rw [h2] at h
        cases h
        rw [List.length_cons, List.length_cons, kindL_len r ms h2]
mutual
theorem there_known {cols : List (List Val)} {ps : List Val} : ∀ x : Ex, knownE (kindsOf cols) (ps.map Val.k) x = true → thereE cols ps x = true
  | .mk op v rel col n s l, h => by
    rw [knownE, Bool.and_eq_true] at h
    rw [thereE, thereL_known l h.2, Bool.and_true]
    by_cases e : op = 2 ∨ op = 3
    · have h1 := h.1
      rw [leaf_kind e] at h1
      cases h2 : leafV op rel col n cols ps with
      | none => rw [h2] at h1; cases h1
      | some v => rfl
    · unfold leafV
      rw [if_neg (fun e' => e (.inl e')), if_neg (fun e' => e (.inr e'))]
      rfl
theorem thereL_known {cols : List (List Val)} {ps : List Val} : ∀ l : List Ex, knownL (kindsOf cols) (ps.map Val.k) l = true → thereL cols ps l = true
  | [], _ => by rw [thereL]
  | x :: r, h => by
    rw [knownL, Bool.and_eq_true] at h
    rw [thereL, there_known x h.1, thereL_known r h.2]
    rfl
end
theorem safe_op {op : Int} {v : Val} {rel col n : Int} {s : ByteArray} {l : List Ex} : (Ex.mk op v rel col n s l).safe = (!(decide (4 ≤ op) && decide (op ≤ 8)) && safeL l) := by rw [Ex.safe]
mutual
/-- What has a kind over rows that fit has a value of that kind, or NULL, or an error of reckoning. -/
theorem fits_eval {cols : List (List Val)} {ps : List Val} (hc : ∀ l ∈ cols, ∀ v ∈ l, v.right = true) (hp : ∀ v ∈ ps, v.right = true) : ∀ (x : Ex) (k : Int), x.okAll = true → kindE (kindsOf cols) (ps.map Val.k) x = some k →
    ((evalE cols ps x).2 = 0 → Fits k (evalE cols ps x).1) ∧ ((evalE cols ps x).2 ≠ 0 → x.safe = false ∧ ((evalE cols ps x).2 = 3 ∨ (evalE cols ps x).2 = 4))
  | .mk op v rel col n s l, k, ho, hk => by
    rw [Ex.okAll, Bool.and_eq_true] at ho
    by_cases e1 : op = 1
    · rw [kindE, if_pos e1] at hk
      cases hk
      rw [eval_one e1]
      refine ⟨fun _ => ⟨?_, .inl rfl⟩, fun h => absurd rfl h⟩
      subst e1
      rcases (head_shape ho.1).2 with h | h | h | h
      · exact h.2.2.2.2.2
      · exact absurd h.1 (by decide)
      · exact absurd h.1 (by decide)
      · exact absurd h.1 (by decide)
    · by_cases e2 : op = 2 ∨ op = 3
      · rw [kindE, if_neg e1, if_pos e2, leaf_kind e2] at hk
        rw [eval_leaf e2]
        cases h2 : leafV op rel col n cols ps with
        | none => rw [h2] at hk; cases hk
        | some z =>
          rw [h2] at hk
          cases hk
          exact ⟨fun _ => ⟨leafV_right hc hp e2 h2, .inl rfl⟩, fun h => absurd rfl h⟩
      · have hop := op_range ho.1
        have h4 : 4 ≤ op := by omega
        rw [kind_op h4] at hk
        rw [eval_op h4, safe_op]
        cases h1 : kindL (kindsOf cols) (ps.map Val.k) l with
        | none => rw [h1] at hk; cases hk
        | some ks =>
          rw [h1] at hk
          simp only at hk
          have hs : suitK op ks = true := by
            cases hs : suitK op ks with
            | true => rfl
            | false => rw [hs] at hk; simp at hk
          rw [if_pos hs] at hk
          cases hk
          have hl := fitsL_eval hc hp l ks ho.2 h1
          have hw : wantsOf op = (ks.length : Int) := by rw [kindL_len l ks h1]; exact (head_parts ho.1).1
          cases h2 : evalL cols ps l with
          | ok vs =>
            rw [h2] at hl
            have ha := apply_fits h4 hop.2 hw hs hl
            refine ⟨ha.1, fun h => ?_⟩
            obtain ⟨h8, h34⟩ := ha.2 h
            refine ⟨?_, h34⟩
            rw [decide_eq_true h4, decide_eq_true h8]
            rfl
          | bad e =>
            rw [h2] at hl
            obtain ⟨hs', he⟩ := (show BadL l e from hl)
            refine ⟨fun h => ?_, fun _ => ⟨by rw [hs', Bool.and_false], he⟩⟩
            have : e = 0 := h
            omega
theorem fitsL_eval {cols : List (List Val)} {ps : List Val} (hc : ∀ l ∈ cols, ∀ v ∈ l, v.right = true) (hp : ∀ v ∈ ps, v.right = true) : ∀ (l : List Ex) (ks : List Int), okL l = true → kindL (kindsOf cols) (ps.map Val.k) l = some ks →
    (match evalL cols ps l with
    | .ok vs => FitL ks vs
    | .bad e => BadL l e)
  | [], ks, _, hk => by
    rw [kindL] at hk
    cases hk
    rw [evalL_nil]
    exact FitL.nil
  | x :: r, ks, ho, hk => by
    rw [okL, Bool.and_eq_true] at ho
    rw [kindL] at hk
    cases h1 : kindE (kindsOf cols) (ps.map Val.k) x with
    | none => rw [h1] at hk; cases hk
    | some k =>
      rw [h1] at hk
      simp only at hk
      cases h2 : kindL (kindsOf cols) (ps.map Val.k) r with
      | none => rw [h2] at hk; cases hk
      | some ms =>
        rw [h2] at hk
        cases hk
        have hx := fits_eval hc hp x k ho.1 h1
        have hr := fitsL_eval hc hp r ms ho.2 h2
        by_cases e : (evalE cols ps x).2 = 0
        · rw [evalL_ok e]
          cases h3 : evalL cols ps r with
          | ok vs =>
            rw [h3] at hr
            exact FitL.cons (hx.1 e) hr
          | bad z =>
            rw [h3] at hr
            obtain ⟨a, b⟩ := (show BadL r z from hr)
            exact ⟨by rw [safeL, a, Bool.and_false], b⟩
        · rw [evalL_bad e]
          obtain ⟨a, b⟩ := hx.2 e
          exact ⟨by rw [safeL, a, Bool.false_and], b⟩
end

/-! What is joined by AND. -/
def isTrue (v : Val) : Bool := v.k == 2 && v.n == 1 && v.s.toList == ([] : List UInt8)
theorem conn_true {x y : Val} (h : (conn 0 1 x y).2 = 0) : isTrue (conn 0 1 x y).1 = (isTrue x && isTrue y) := by
  unfold conn at h ⊢
  split at h
  · rename_i hn
    rw [if_pos hn]
    rw [Bool.and_eq_true] at hn
    obtain ⟨⟨xr, xk⟩, yr, yk⟩ := And.intro (nullOr_parts hn.1) (nullOr_parts hn.2)
    have sh : ∀ {z : Val}, z.right = true → z.k = 2 → (z.n = 0 ∨ z.n = 1) ∧ z.s.toList = [] := fun {z} hr hk => by
      unfold Val.right at hr
      rw [hk] at hr
      simpa using hr
    have nt : ∀ {z : Val}, z.k = 0 → isTrue z = false := fun {z} hk => by unfold isTrue; rw [hk]; rfl
    rcases xk with xk | xk
    · rw [nt xk, Bool.false_and]
      split
      · rfl
      · rw [if_pos (by simp [xk])]; rfl
    · obtain ⟨xn, xs⟩ := sh xr xk
      rcases yk with yk | yk
      · rw [nt yk, Bool.and_false]
        split
        · rfl
        · rw [if_pos (by simp [yk])]; rfl
      · obtain ⟨yn, ys⟩ := sh yr yk
        unfold isTrue
        rw [xk, yk, xs, ys]
        rcases xn with xn | xn <;> rcases yn with yn | yn <;> rw [xn, yn] <;> simp
  · cases h
theorem split_parts : ∀ (k : Nat) (x : Ex), x.deep ≤ k → ∀ p ∈ x.split, p.deep ≤ x.deep ∧ p.count ≤ x.count ∧ (x.okAll = true → p.okAll = true ∧ p.op ≠ 15)
  | 0, x, h => absurd (deep_pos x) (by omega)
  | k + 1, .mk op v rel col n s l, h => by
    intro p hp
    match l, h with
    | [], h =>
      rw [Ex.split, List.mem_singleton] at hp
      subst hp
      refine ⟨Nat.le_refl _, Nat.le_refl _, fun ho => ⟨ho, fun e => ?_⟩⟩
      rw [Ex.okAll, Bool.and_eq_true] at ho
      have h1 := (head_parts ho.1).1
      have e' : op = 15 := e
      rw [e'] at h1
      simp [wantsOf] at h1
    | [a], h =>
      rw [Ex.split, List.mem_singleton] at hp
      subst hp
      refine ⟨Nat.le_refl _, Nat.le_refl _, fun ho => ⟨ho, fun e => ?_⟩⟩
      rw [Ex.okAll, Bool.and_eq_true] at ho
      have h1 := (head_parts ho.1).1
      have e' : op = 15 := e
      rw [e'] at h1
      simp [wantsOf] at h1
    | [a, b], h =>
      rw [Ex.split] at hp
      rw [Ex.deep, deepL, deepL, deepL] at h
      by_cases e : op = 15
      · rw [if_pos e] at hp
        rw [Ex.deep, deepL, deepL, deepL, Ex.count, countL, countL, countL]
        rcases List.mem_append.1 hp with hp | hp
        · obtain ⟨h1, h2, h3⟩ := split_parts k a (by omega) p hp
          refine ⟨by omega, by omega, fun ho => h3 ?_⟩
          rw [Ex.okAll, okL, Bool.and_eq_true, Bool.and_eq_true] at ho
          exact ho.2.1
        · obtain ⟨h1, h2, h3⟩ := split_parts k b (by omega) p hp
          refine ⟨by omega, by omega, fun ho => h3 ?_⟩
          rw [Ex.okAll, okL, okL, Bool.and_eq_true, Bool.and_eq_true, Bool.and_eq_true] at ho
          exact ho.2.2.1
      · rw [if_neg e, List.mem_singleton] at hp
        subst hp
        exact ⟨Nat.le_refl _, Nat.le_refl _, fun ho => ⟨ho, e⟩⟩
    | a :: b :: c :: r, h =>
      rw [Ex.split, List.mem_singleton] at hp
      subst hp
      refine ⟨Nat.le_refl _, Nat.le_refl _, fun ho => ⟨ho, fun e => ?_⟩⟩
      rw [Ex.okAll, Bool.and_eq_true] at ho
      have h1 := head_two ho.1
      simp only [List.length_cons] at h1
      omega
/-- Where the whole has a value, all parts have one, and it is true just where they all are. -/
theorem split_true {cols : List (List Val)} {ps : List Val} : ∀ (k : Nat) (x : Ex), x.deep ≤ k → thereE cols ps x = true → (evalE cols ps x).2 = 0 →
    (∀ p ∈ x.split, thereE cols ps p = true ∧ (evalE cols ps p).2 = 0) ∧ isTrue (evalE cols ps x).1 = x.split.all (fun p => isTrue (evalE cols ps p).1)
  | 0, x, h, _, _ => absurd (deep_pos x) (by omega)
  | k + 1, .mk op v rel col n s l, h, ht, he => by
    have alone : ∀ {y : Ex}, thereE cols ps y = true → (evalE cols ps y).2 = 0 → (∀ p ∈ [y], thereE cols ps p = true ∧ (evalE cols ps p).2 = 0) ∧ isTrue (evalE cols ps y).1 = [y].all (fun p => isTrue (evalE cols ps p).1) := fun {y} h1 h2 =>
      ⟨fun p hp => by rw [List.mem_singleton] at hp; subst hp; exact ⟨h1, h2⟩, by simp⟩
    match l, h, ht, he with
    | [], _, ht, he => rw [Ex.split]; exact alone ht he
    | [a], _, ht, he => rw [Ex.split]; exact alone ht he
    | [a, b], h, ht, he =>
      rw [Ex.split]
      by_cases e : op = 15
      · rw [if_pos e]
        rw [Ex.deep, deepL, deepL, deepL] at h
        rw [there_other (by omega) (by omega), thereL, thereL, thereL, Bool.and_true, Bool.and_eq_true] at ht
        rw [eval_op (by omega)] at he ⊢
        by_cases ea : (evalE cols ps a).2 = 0
        · by_cases eb : (evalE cols ps b).2 = 0
          · rw [evalL_ok ea, evalL_ok eb, evalL_nil] at he ⊢
            have e2 : ∀ x y, applyS op x y = conn 0 1 x y := fun x y => by rw [e]; rfl
            simp only [List.getD_cons_zero, List.getD_cons_succ, e2] at he ⊢
            obtain ⟨a1, a2⟩ := split_true k a (by omega) ht.1 ea
            obtain ⟨b1, b2⟩ := split_true k b (by omega) ht.2 eb
            refine ⟨fun p hp => (List.mem_append.1 hp).elim (a1 p) (b1 p), ?_⟩
            rw [conn_true he, List.all_append, a2, b2]
          · rw [evalL_ok ea, evalL_bad eb] at he
            exact absurd he eb
        · rw [evalL_bad ea] at he
          exact absurd he ea
      · rw [if_neg e]
        exact alone ht he
    | a :: b :: c :: r, _, ht, he => rw [Ex.split]; exact alone ht he

end Go.Proofs.YtiidfghdmaipoaaDoor
