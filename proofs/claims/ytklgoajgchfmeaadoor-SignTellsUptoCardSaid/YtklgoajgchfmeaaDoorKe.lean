/- A part of the proof. -/
import Derived.Test.YtklgoajgchfmeaaDoorExD
import Derived.Test.YtklgoajgchfmeaaDoorKc
import Derived.Test.YtklgoajgchfmeaaDoorRows
import Derived.Lib.LaidU8
import Derived.Lib.SmallJoins
import Derived.Lib.ItoaNum
import Derived.Lib.LaidTab
import Derived.OpenShut
set_option linter.unusedVariables false
set_option linter.unusedSimpArgs false
namespace Go.Proofs.YtklgoajgchfmeaaDoor
open Go.Lib
def dig (b : UInt8) : Bool := decide (48 ≤ b.toNat) && decide (b.toNat ≤ 57)
def Stops (r : Bs) : Prop := ∀ b t, r = b :: t → dig b = false
theorem Stops.cons {b : UInt8} {r : Bs} (h : dig b = false) : Stops (b :: r) := fun _ _ e => by cases e; exact h
theorem Stops.nil : Stops [] := fun _ _ e => by cases e
def valOf (l : Bs) : Nat := l.foldl (fun a b => a * 10 + (b.toNat - 48)) 0
theorem u8_nat {k : Nat} (h : k < 256) : (UInt8.ofNat k).toNat = k := by
  first
    | exact UInt8.toNat_ofNat_of_lt' h
    | (simp [UInt8.toNat_ofNat']; omega)
    | (simp; omega)
theorem dig_of {d : Nat} (h : d < 10) : dig (UInt8.ofNat (48 + d)) = true := by
  unfold dig
  rw [u8_nat (by omega), decide_eq_true (by omega), decide_eq_true (by omega)]
  rfl
theorem dec_dig (n : Nat) : ∀ b ∈ decDigits n, dig b = true := by
  induction n using Nat.strongRecOn with
  | _ n ih =>
    intro b hb
    rw [decDigits] at hb
    split at hb
    · rw [List.mem_singleton] at hb
      subst hb
      exact dig_of (by omega)
    · rcases List.mem_append.1 hb with hb | hb
      · exact ih (n / 10) (by omega) b hb
      · rw [List.mem_singleton] at hb
        subst hb
        exact dig_of (by omega)
theorem dec_val (n : Nat) : valOf (decDigits n) = n := by
  induction n using Nat.strongRecOn with
  | _ n ih =>
    rw [decDigits]
    split
    · simp only [valOf, List.foldl_cons, List.foldl_nil]
      rw [u8_nat (by omega)]
      omega
    · have h := ih (n / 10) (by omega)
      unfold valOf at h ⊢
      rw [List.foldl_append, h]
      simp only [List.foldl_cons, List.foldl_nil]
      rw [u8_nat (by omega)]
      omega
theorem dec_span {l r : Bs} (h : ∀ b ∈ l, dig b = true) (hr : Stops r) : (l ++ r).takeWhile dig = l := by
  induction l with
  | nil =>
    cases r with
    | nil => rfl
    | cons b t => rw [List.nil_append, List.takeWhile_cons, hr b t rfl]; rfl
  | cons a l ih =>
    rw [List.cons_append, List.takeWhile_cons, h a (by simp), if_pos rfl, ih fun b hb => h b (by simp [hb])]
theorem dec_cut {a b : Nat} {r t : Bs} (h : decDigits a ++ r = decDigits b ++ t) (hr : Stops r) (ht : Stops t) : a = b ∧ r = t := by
  have e1 := dec_span (dec_dig a) hr
  have e2 := dec_span (dec_dig b) ht
  rw [h, e2] at e1
  have e3 : a = b := by rw [← dec_val a, ← dec_val b, e1]
  subst e3
  exact ⟨rfl, List.append_cancel_left h⟩
theorem dec_first (n : Nat) : ∃ b t, decDigits n = b :: t ∧ dig b = true := by
  have hd := dec_dig n
  cases hl : decDigits n with
  | nil =>
    have h := decDigits_length n
    rw [hl] at h
    have := nDigits_pos n
    simp at h
    omega
  | cons b t => exact ⟨b, t, rfl, hd b (by rw [hl]; simp)⟩
theorem itoa_cut {a b : Int} {r t : Bs} (h : itoa a ++ r = itoa b ++ t) (hr : Stops r) (ht : Stops t) : a = b ∧ r = t := by
  have d45 : dig 45 = false := by decide
  unfold itoa at h
  split at h
  · split at h
    · simp only [List.cons_append, List.cons.injEq, true_and] at h
      obtain ⟨e, e2⟩ := dec_cut h hr ht
      exact ⟨by omega, e2⟩
    · obtain ⟨x, u, e, hx⟩ := dec_first b.toNat
      rw [e] at h
      simp only [List.cons_append, List.cons.injEq] at h
      rw [← h.1, d45] at hx
      cases hx
  · split at h
    · obtain ⟨x, u, e, hx⟩ := dec_first a.toNat
      rw [e] at h
      simp only [List.cons_append, List.cons.injEq] at h
      rw [h.1, d45] at hx
      cases hx
    · obtain ⟨e, e2⟩ := dec_cut h hr ht
      exact ⟨by omega, e2⟩
theorem zero_shape {v : Val} (h : isZeroV v = true) : v.k = 0 ∧ v.n = 0 ∧ v.s.toList = [] := by
  simpa [isZeroV, and_assoc] using h
theorem head_shape {op : Int} {v : Val} {rel col n : Int} {s : ByteArray} {len : Nat} (h : headOk op v rel col n s len = true) : s.toList = [] ∧
    ((op = 1 ∧ rel = 0 ∧ col = 0 ∧ n = 0 ∧ len = 0 ∧ v.right = true) ∨ (op = 2 ∧ isZeroV v = true ∧ n = 0 ∧ len = 0) ∨ (op = 3 ∧ isZeroV v = true ∧ rel = 0 ∧ col = 0 ∧ len = 0) ∨ (4 ≤ op ∧ op ≤ 18 ∧ isZeroV v = true ∧ rel = 0 ∧ col = 0 ∧ n = 0 ∧ (len : Int) = wantsOf op)) := by
  unfold headOk at h
  simp only [Bool.and_eq_true, beq_iff_eq, Bool.or_eq_true] at h
  obtain ⟨⟨⟨⟨⟨h1, h2⟩, h3⟩, h4⟩, h5⟩, h6⟩ := h
  refine ⟨h2, ?_⟩
  have hr : 1 ≤ op ∧ op ≤ 18 := by
    unfold wantsOf at h1
    split at h1 <;> omega
  by_cases e1 : op = 1
  · subst e1
    simp [wantsOf] at h1 h5 h6
    exact .inl ⟨rfl, h5.1, h5.2, h6, by omega, h3⟩
  · have hz : isZeroV v = true := h4.resolve_left e1
    by_cases e2 : op = 2
    · subst e2
      simp [wantsOf] at h1 h6
      exact .inr (.inl ⟨rfl, hz, h6, by omega⟩)
    · rw [if_neg e2] at h5
      simp only [Bool.and_eq_true, beq_iff_eq] at h5
      by_cases e3 : op = 3
      · subst e3
        simp [wantsOf] at h1
        exact .inr (.inr (.inl ⟨rfl, hz, h5.1, h5.2, by omega⟩))
      · rw [if_neg e3, beq_iff_eq] at h6
        exact .inr (.inr (.inr ⟨by omega, hr.2, hz, h5.1, h5.2, h6, h1.symm⟩))
def printV (v : Val) : Bs := if v.k = 0 then [78] else if v.k = 1 then 73 :: itoa v.n else if v.k = 2 then 66 :: itoa v.n else 84 :: itoa v.s.size ++ [58] ++ v.s.data.toList
theorem right_shape {v : Val} (h : v.right = true) : (v.k = 0 ∧ v.n = 0 ∧ v.s.toList = []) ∨ (v.k = 1 ∧ v.s.toList = []) ∨ (v.k = 2 ∧ v.s.toList = []) ∨ (v.k = 3 ∧ v.n = 0) := by
  unfold Val.right at h
  split at h
  · simp at h; exact .inl ⟨‹_›, h.1, h.2⟩
  · split at h
    · simp at h; exact .inr (.inl ⟨‹_›, h⟩)
    · split at h
      · simp at h; exact .inr (.inr (.inl ⟨‹_›, h.2⟩))
      · split at h
        · simp at h; exact .inr (.inr (.inr ⟨‹_›, h.1⟩))
        · cases h
theorem toList_data (s : ByteArray) : s.toList = s.data.toList := ByteArray.toList_eq s
theorem printV_cut {v u : Val} {r t : Bs} (hv : v.right = true) (hu : u.right = true) (h : printV v ++ r = printV u ++ t) (hr : Stops r) (ht : Stops t) : (v.k = u.k ∧ v.n = u.n ∧ v.s.toList = u.s.toList) ∧ r = t := by
  unfold printV at h
  rcases right_shape hv with ⟨a1, a2, a3⟩ | ⟨a1, a2⟩ | ⟨a1, a2⟩ | ⟨a1, a2⟩
  all_goals rcases right_shape hu with ⟨b1, b2, b3⟩ | ⟨b1, b2⟩ | ⟨b1, b2⟩ | ⟨b1, b2⟩
  all_goals rw [a1, b1] at h
  all_goals simp at h
  · exact ⟨⟨by rw [a1, b1], by rw [a2, b2], by rw [a3, b3]⟩, h⟩
  · obtain ⟨e, e2⟩ := itoa_cut h hr ht
    exact ⟨⟨by rw [a1, b1], e, by rw [a2, b2]⟩, e2⟩
  · obtain ⟨e, e2⟩ := itoa_cut h hr ht
    exact ⟨⟨by rw [a1, b1], e, by rw [a2, b2]⟩, e2⟩
  · obtain ⟨e, e2⟩ := itoa_cut h (Stops.cons (by decide)) (Stops.cons (by decide))
    simp only [List.cons.injEq, true_and] at e2
    have hl : v.s.data.toList.length = u.s.data.toList.length := by simp only [Array.length_toList]; exact Int.ofNat.inj e
    obtain ⟨e3, e4⟩ := List.append_inj e2 hl
    exact ⟨⟨by rw [a1, b1], by rw [a2, b2], by rw [toList_data, toList_data, e3]⟩, e4⟩
theorem print_leaf1 {v : Val} {rel col n : Int} {s : ByteArray} {l : List Ex} : (Ex.mk 1 v rel col n s l).print = printV v := by rw [Ex.print, if_pos rfl]; rfl
theorem print_op {op : Int} {v : Val} {rel col n : Int} {s : ByteArray} {l : List Ex} (h : 4 ≤ op) : (Ex.mk op v rel col n s l).print = 40 :: itoa op ++ printL l ++ [41] := by rw [Ex.print, if_neg (by omega), if_neg (by omega), if_neg (by omega)]
theorem printV_first {v : Val} : ∃ b t, printV v = b :: t ∧ b ≠ 82 ∧ b ≠ 80 ∧ b ≠ 40 := by
  unfold printV
  split
  · exact ⟨78, [], rfl, by decide, by decide, by decide⟩
  · split
    · exact ⟨73, _, rfl, by decide, by decide, by decide⟩
    · split
      · exact ⟨66, _, rfl, by decide, by decide, by decide⟩
      · exact ⟨84, _, rfl, by decide, by decide, by decide⟩
theorem printL_first {l : List Ex} {r : Bs} (hl : l ≠ []) : ∃ t, printL l ++ r = 32 :: t := by
  cases l with
  | nil => exact absurd rfl hl
  | cons x l => exact ⟨x.print ++ (printL l ++ r), by rw [printL]; simp⟩
theorem stops_list {l : List Ex} {r : Bs} : Stops (printL l ++ 41 :: r) := by
  cases l with
  | nil => rw [printL]; exact Stops.cons (by decide)
  | cons x l =>
    obtain ⟨t, e⟩ := printL_first (l := x :: l) (r := 41 :: r) (by simp)
    rw [e]
    exact Stops.cons (by decide)
theorem stops_list' {l : List Ex} {r : Bs} (hr : Stops r) : Stops (printL l ++ r) := by
  cases l with
  | nil => rw [printL]; exact hr
  | cons x l =>
    obtain ⟨t, e⟩ := printL_first (l := x :: l) (r := r) (by simp)
    rw [e]
    exact Stops.cons (by decide)
mutual
theorem print_cut : ∀ (x y : Ex) (r t : Bs), x.okAll = true → y.okAll = true → x.print ++ r = y.print ++ t → Stops r → Stops t → sameE x y = true ∧ r = t
  | .mk op v rel col n s l, .mk op' v' rel' col' n' s' l', r, t, hx, hy, h, hr, ht => by
    rw [Ex.okAll, Bool.and_eq_true] at hx hy
    obtain ⟨hx, hxl⟩ := hx
    obtain ⟨hy, hyl⟩ := hy
    have sx := (head_shape hx).2
    have sy := (head_shape hy).2
    rcases sx with ⟨rfl, rfl, rfl, rfl, x4, x5⟩ | ⟨rfl, xv, rfl, x4⟩ | ⟨rfl, xv, rfl, rfl, x4⟩ | ⟨xa, xb, xv, rfl, rfl, rfl, x4⟩
    · rw [print_leaf1] at h
      rcases sy with ⟨rfl, rfl, rfl, rfl, y4, y5⟩ | ⟨rfl, yv, rfl, y4⟩ | ⟨rfl, yv, rfl, rfl, y4⟩ | ⟨ya, yb, yv, rfl, rfl, rfl, y4⟩
      · rw [print_leaf1] at h
        obtain ⟨⟨e1, e2, e3⟩, e4⟩ := printV_cut x5 y5 h hr ht
        rw [List.length_eq_zero_iff] at x4 y4
        subst x4 y4
        refine ⟨?_, e4⟩
        rw [sameE, sameL, e1, e2, e3]
        simp
      · obtain ⟨b, u, e, n1, n2, n3⟩ := printV_first (v := v)
        rw [e, Ex.print, if_neg (by decide), if_pos rfl] at h
        simp at h
        exact absurd h.1 n1
      · obtain ⟨b, u, e, n1, n2, n3⟩ := printV_first (v := v)
        rw [e, Ex.print, if_neg (by decide), if_neg (by decide), if_pos rfl] at h
        simp at h
        exact absurd h.1 n2
      · obtain ⟨b, u, e, n1, n2, n3⟩ := printV_first (v := v)
        rw [e, print_op ya] at h
        simp at h
        exact absurd h.1 n3
    · rw [Ex.print, if_neg (by decide), if_pos rfl] at h
      rcases sy with ⟨rfl, rfl, rfl, rfl, y4, y5⟩ | ⟨rfl, yv, rfl, y4⟩ | ⟨rfl, yv, rfl, rfl, y4⟩ | ⟨ya, yb, yv, rfl, rfl, rfl, y4⟩
      · obtain ⟨b, u, e, n1, n2, n3⟩ := printV_first (v := v')
        rw [print_leaf1, e] at h
        simp at h
        exact absurd h.1.symm n1
      · rw [Ex.print, if_neg (by decide), if_pos rfl] at h
        simp at h
        obtain ⟨e1, e2⟩ := itoa_cut h (Stops.cons (by decide)) (Stops.cons (by decide))
        simp only [List.cons.injEq, true_and] at e2
        obtain ⟨e3, e4⟩ := itoa_cut e2 hr ht
        rw [List.length_eq_zero_iff] at x4 y4
        subst x4 y4 e1 e3
        refine ⟨?_, e4⟩
        obtain ⟨z1, z2, z3⟩ := zero_shape xv
        obtain ⟨w1, w2, w3⟩ := zero_shape yv
        rw [sameE, sameL, z1, z2, z3, w1, w2, w3]
        simp
      · rw [Ex.print, if_neg (by decide), if_neg (by decide), if_pos rfl] at h
        simp at h
      · rw [print_op ya] at h
        simp at h
    · rw [Ex.print, if_neg (by decide), if_neg (by decide), if_pos rfl] at h
      rcases sy with ⟨rfl, rfl, rfl, rfl, y4, y5⟩ | ⟨rfl, yv, rfl, y4⟩ | ⟨rfl, yv, rfl, rfl, y4⟩ | ⟨ya, yb, yv, rfl, rfl, rfl, y4⟩
      · obtain ⟨b, u, e, n1, n2, n3⟩ := printV_first (v := v')
        rw [print_leaf1, e] at h
        simp at h
        exact absurd h.1.symm n2
      · rw [Ex.print, if_neg (by decide), if_pos rfl] at h
        simp at h
      · rw [Ex.print, if_neg (by decide), if_neg (by decide), if_pos rfl] at h
        simp at h
        obtain ⟨e3, e4⟩ := itoa_cut h hr ht
        rw [List.length_eq_zero_iff] at x4 y4
        subst x4 y4 e3
        refine ⟨?_, e4⟩
        obtain ⟨z1, z2, z3⟩ := zero_shape xv
        obtain ⟨w1, w2, w3⟩ := zero_shape yv
        rw [sameE, sameL, z1, z2, z3, w1, w2, w3]
        simp
      · rw [print_op ya] at h
        simp at h
    · rw [print_op xa] at h
      rcases sy with ⟨rfl, rfl, rfl, rfl, y4, y5⟩ | ⟨rfl, yv, rfl, y4⟩ | ⟨rfl, yv, rfl, rfl, y4⟩ | ⟨ya, yb, yv, rfl, rfl, rfl, y4⟩
      · obtain ⟨b, u, e, n1, n2, n3⟩ := printV_first (v := v')
        rw [print_leaf1, e] at h
        simp at h
        exact absurd h.1.symm n3
      · rw [Ex.print, if_neg (by decide), if_pos rfl] at h
        simp at h
      · rw [Ex.print, if_neg (by decide), if_neg (by decide), if_pos rfl] at h
        simp at h
      · rw [print_op ya] at h
        simp at h
        obtain ⟨e1, e2⟩ := itoa_cut h stops_list stops_list
        subst e1
        have hlen : l.length = l'.length := by omega
        obtain ⟨e3, e4⟩ := printL_cut l l' _ _ hxl hyl hlen e2 (Stops.cons (by decide)) (Stops.cons (by decide))
        simp only [List.cons.injEq, true_and] at e4
        refine ⟨?_, e4⟩
        obtain ⟨z1, z2, z3⟩ := zero_shape xv
        obtain ⟨w1, w2, w3⟩ := zero_shape yv
        rw [sameE, e3, z1, z2, z3, w1, w2, w3]
        simp
theorem printL_cut : ∀ (l m : List Ex) (r t : Bs), okL l = true → okL m = true → l.length = m.length → printL l ++ r = printL m ++ t → Stops r → Stops t → sameL l m = true ∧ r = t
  | [], [], r, t, _, _, _, h, _, _ => by rw [printL] at h; exact ⟨by rw [sameL], by simpa using h⟩
  | x :: l, y :: m, r, t, hx, hy, hl, h, hr, ht => by
    rw [okL, Bool.and_eq_true] at hx hy
    rw [printL, printL] at h
    simp only [List.cons_append, List.cons.injEq, true_and, List.append_assoc] at h
    obtain ⟨e1, e2⟩ := print_cut x y _ _ hx.1 hy.1 h (stops_list' hr) (stops_list' ht)
    obtain ⟨e3, e4⟩ := printL_cut l m r t hx.2 hy.2 (by simpa using hl) e2 hr ht
    exact ⟨by rw [sameL, e1, e3]; rfl, e4⟩
  | [], _ :: _, _, _, _, _, hl, _, _, _ => absurd hl (by simp)
  | _ :: _, [], _, _, _, _, hl, _, _, _ => absurd hl (by simp)
end
mutual
theorem print_same : ∀ (x y : Ex), sameE x y = true → x.print = y.print
  | .mk op v rel col n s l, .mk op' v' rel' col' n' s' l', h => by
    rw [sameE] at h
    simp only [Bool.and_eq_true, beq_iff_eq] at h
    obtain ⟨⟨⟨⟨⟨rfl, ⟨hk, hn⟩, hs⟩, rfl⟩, rfl⟩, rfl⟩, hl⟩ := h
    obtain ⟨k, n0, s0⟩ := v
    obtain ⟨k', n0', s0'⟩ := v'
    simp only at hk hn hs
    have hs' : s0 = s0' := ba_eq.2 hs
    subst hk hn hs'
    rw [Ex.print, Ex.print, printL_same l l' hl]
theorem printL_same : ∀ (l m : List Ex), sameL l m = true → printL l = printL m
  | [], [], _ => rfl
  | x :: l, y :: m, h => by
    rw [sameL, Bool.and_eq_true] at h
    rw [printL, printL, print_same x y h.1, printL_same l m h.2]
  | [], _ :: _, h => by simp [sameL] at h
  | _ :: _, [], h => by simp [sameL] at h
end
theorem print_iff {x y : Ex} (hx : x.okAll = true) (hy : y.okAll = true) : x.print = y.print ↔ sameE x y = true :=
  ⟨fun h => (print_cut x y [] [] hx hy (by rw [h]) Stops.nil Stops.nil).1, print_same x y⟩
open Go.RowKit Go.ChangeShapes
set_option maxRecDepth 100000
def needT : List (List Int) := [[0,0,0,0,0,0,0],[0,0,0,0,0,0,0],[0,0,0,15,5,0,0],[0,0,0,0,0,1,4],[2,1,1,0,0,0,0],[2,1,1,0,0,0,0],[2,1,1,0,0,0,0],[2,1,1,0,0,0,0],[1,1,1,0,0,0,0],[2,-2,2,0,0,0,0],[2,-2,2,0,0,0,0],[2,-2,2,0,0,0,0],[2,-2,2,0,0,0,0],[2,-2,2,0,0,0,0],[2,-2,2,0,0,0,0],[2,2,2,0,0,0,0],[2,2,2,0,0,0,0],[1,2,2,0,0,0,0],[1,-1,2,0,0,0,0]]
structure GE (w : World) : Prop where
  size : 3 ≤ w.heap.size
  nd : ∀ (i j : Nat) (r : List Int) (z : Int), needT[i]? = some r → r[j]? = some z → w.cell? ⟨0, i * 7 + j, none⟩ = some (.int .i64 z)
  pow : Lib.TabIs Tryd.prog w "internal/strconv.uint64pow10" .u64 Lib.pow10Tab
theorem Tryd.gNd : Tryd.prog.globalNamed "weathercock/expr.needs" = some 0 := by kernel_rfl
theorem Tryd.gPw : Tryd.prog.globalNamed "internal/strconv.uint64pow10" = some 1 := by kernel_rfl
theorem Tryd.tNd : (Tryd.prog.globals[0]?).map (·.type) = some 84 := by kernel_rfl
theorem Tryd.tPw : (Tryd.prog.globals[1]?).map (·.type) = some 112 := by kernel_rfl
theorem GE.below {w w' : World} {n : Nat} (h : GE w) (hb : Below n w w') (hn : 3 ≤ n) : GE w' where
  size := Nat.le_trans h.size hb.size
  nd i j r z hi hj := (hb.cell (p := ⟨0, i * 7 + j, none⟩) (by show 0 < n; omega)).trans (h.nd i j r z hi hj)
  pow := by
    have h1 := h.pow
    unfold Lib.TabIs at h1 ⊢
    rw [← h1]
    unfold World.var?
    simp only [Tryd.gPw, Option.bind_some]
    have h2 := hb.block 1 (by show 1 < n; omega)
    first | rw [h2] | simp only [h2]
theorem GE.on {w w' : World} (h : GE w) (hb : Below w.heap.size w w') : GE w' := h.below hb h.size
theorem GE.alloc {w : World} (h : GE w) (o : Obj) : GE (w.alloc o) := h.on (ext_alloc (ext_refl _) _)
theorem GE.set {w : World} (h : GE w) {a : Addr} (ha : 3 ≤ a.block) (v : Value) : GE (w.setCell a v) := h.below ((Below.refl 3 w).setCell ha v) (Nat.le_refl _)
theorem list7 {α : Type} : ∀ {l : List α}, l.length = 7 → ∃ a b c d e f g, l = [a, b, c, d, e, f, g]
  | [a, b, c, d, e, f, g], _ => ⟨a, b, c, d, e, f, g, rfl⟩
theorem cells_need {w : World} {base : Nat} {sp : Nat → Bool} {held : Bool} {fuel : Nat} {cs : List Value} {r : List Int} {p : List MemPlace} {d : DataW Unit}
    (h : DataW.trod (fun _ => ()) Tryd.prog w base sp held fuel 83 cs = some (d, p)) (hd : d = .agg (r.map fun z => .lit (.int .i64 z))) (j : Nat) (z : Int) (hj : r[j]? = some z) : cs[j]? = some (.int .i64 z) := by
  obtain ⟨xs, n', _, ex, hl, hlen, hf⟩ := DataW.trod_struct Tryd.underlying83 h
  have cN : Tryd.prog.cellsOf 83 = 7 := by kernel_rfl
  have c1 : Tryd.prog.cellsOf 3 = 1 := by kernel_rfl
  rw [cN] at hl
  have e3 : xs.map (·.1) = r.map fun z => (.lit (.int .i64 z) : DataW Unit) := by
    have h0 := (Prod.mk.inj ex).1
    rw [hd] at h0
    exact (DataW.agg.inj h0).symm
  obtain ⟨y0, y1, y2, y3, y4, y5, y6, rfl⟩ := list7 (show xs.length = 7 from hlen)
  obtain ⟨v0, v1, v2, v3, v4, v5, v6, rfl⟩ := list7 hl
  · skip
    have h0 := hf 0 _ rfl
    have h1 := hf 1 _ rfl
    have h2 := hf 2 _ rfl
    have h3 := hf 3 _ rfl
    have h4 := hf 4 _ rfl
    have h5 := hf 5 _ rfl
    have h6 := hf 6 _ rfl
    clear hf h
    simp only [List.getElem?_cons_zero, List.getElem?_cons_succ] at h0 h1 h2 h3 h4 h5 h6
    obtain ⟨a0, e0, f0, _⟩ := DataW.trod_int Tryd.underlying3 h0
    obtain ⟨a1, e1, f1, _⟩ := DataW.trod_int Tryd.underlying3 h1
    obtain ⟨a2, e2, f2, _⟩ := DataW.trod_int Tryd.underlying3 h2
    obtain ⟨a3, e4, f3, _⟩ := DataW.trod_int Tryd.underlying3 h3
    obtain ⟨a4, e5, f4, _⟩ := DataW.trod_int Tryd.underlying3 h4
    obtain ⟨a5, e6, f5, _⟩ := DataW.trod_int Tryd.underlying3 h5
    obtain ⟨a6, e7, f6, _⟩ := DataW.trod_int Tryd.underlying3 h6
    simp [c1] at e0 e1 e2 e4 e5 e6 e7
    subst e0 e1 e2 e4 e5 e6 e7
    have e8 : (r.map fun z => (.lit (.int .i64 z) : DataW Unit))[j]? = some (.lit (.int .i64 z)) := by rw [List.getElem?_map, hj]; rfl
    rw [← e3] at e8
    simp only [List.map_cons, List.map_nil, f0, f1, f2, f3, f4, f5, f6] at e8
    match j, e8 with
    | 0, e8 => simpa using e8
    | 1, e8 => simpa using e8
    | 2, e8 => simpa using e8
    | 3, e8 => simpa using e8
    | 4, e8 => simpa using e8
    | 5, e8 => simpa using e8
    | 6, e8 => simpa using e8
theorem cells_needs {w : World} {base : Nat} {sp : Nat → Bool} {held : Bool} {fuel : Nat} {cs : List Value} {zs : List (List Int)} {p : List MemPlace}
    (h : DataW.trod (fun _ => ()) Tryd.prog w base sp held fuel 84 cs = some (.agg (zs.map fun r => .agg (r.map fun z => .lit (.int .i64 z))), p)) (i j : Nat) (r : List Int) (z : Int) (hi : zs[i]? = some r) (hj : r[j]? = some z) (hj7 : j < 7) : cs[i * 7 + j]? = some (.int .i64 z) := by
  obtain ⟨xs, m, _, ex, _, hl, hel⟩ := DataW.trod_array Tryd.underlying84 h
  have c1 : Tryd.prog.cellsOf 83 = 7 := by kernel_rfl
  have e3 : xs.map (·.1) = zs.map fun r => (.agg (r.map fun z => .lit (.int .i64 z)) : DataW Unit) := (DataW.agg.inj (Prod.mk.inj ex).1).symm
  have e4 : (xs.map (·.1))[i]? = some (.agg (r.map fun z => .lit (.int .i64 z))) := by rw [e3, List.getElem?_map, hi]; rfl
  rw [List.getElem?_map] at e4
  obtain ⟨x, hx, hx1⟩ := Option.map_eq_some_iff.1 e4
  have hlt : i < xs.length := (List.getElem?_eq_some_iff.1 hx).1
  have hE := hel i (by omega)
  rw [hx] at hE
  have h0 := cells_need (d := x.1) (p := x.2) hE hx1 j z hj
  rw [c1] at h0
  rw [List.getElem?_take, if_pos hj7, List.getElem?_drop] at h0
  exact h0
theorem GE.of_reads {W : World} (h0 : 3 ≤ W.heap.size) (h1 : Lib.VarReads Tryd.prog W "weathercock/expr.needs" Rows.laid_weathercock_expr_needs) (h2 : Lib.VarReads Tryd.prog W "internal/strconv.uint64pow10" Rows.laid_internal_strconv_uint64pow10) : GE W where
  size := h0
  nd i j r z hi hj := by
    obtain ⟨g, t, cs, fuel, p, hg, ht, hv, hd⟩ := h1
    obtain rfl := Option.some.inj (Tryd.gNd.symm.trans hg)
    obtain rfl := Option.some.inj (Tryd.tNd.symm.trans ht)
    rw [World.var?_cell hg hv (i * 7 + j)]
    have e : (Rows.laid_weathercock_expr_needs : DataW Unit) = .agg (needT.map fun r => .agg (r.map fun z => .lit (.int .i64 z))) := rfl
    rw [e] at hd
    have h7 : j < 7 := by
      have h8 : r.length = 7 := by
        have : ∀ r ∈ needT, r.length = 7 := by decide
        exact this r (List.mem_of_getElem? hi)
      rw [← h8]
      exact (List.getElem?_eq_some_iff.1 hj).1
    simpa using cells_needs hd i j r z hi hj h7
  pow := by
    obtain ⟨g, t, cs, fuel, p, hg, ht, hv, hd⟩ := h2
    obtain rfl := Option.some.inj (Tryd.gPw.symm.trans hg)
    obtain rfl := Option.some.inj (Tryd.tPw.symm.trans ht)
    have e : (Rows.laid_internal_strconv_uint64pow10 : DataW Unit) = Lib.tabData .u64 Lib.pow10Tab := by kernel_rfl
    rw [e] at hd
    have hcs := Lib.cells_of_tab Tryd.underlying112 Tryd.underlying92 (by kernel_rfl) (by kernel_rfl) hd
    unfold Lib.TabIs
    rw [hv, ← hcs]
end Go.Proofs.YtklgoajgchfmeaaDoor
