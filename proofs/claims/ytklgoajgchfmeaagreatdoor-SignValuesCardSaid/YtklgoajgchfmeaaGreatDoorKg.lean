/- A part of the proof. -/
import Derived.Test.YtklgoajgchfmeaaGreatDoorKb
import Derived.Deep.RegionWith
set_option linter.unusedVariables false
set_option linter.unusedSimpArgs false
namespace Go.Proofs.YtklgoajgchfmeaaGreatDoor
open Go.Lib
def dig (b : UInt8) : Bool := decide (48 ≤ b.toNat) && decide (b.toNat ≤ 57)
def Stops (r : Bs) : Prop := ∀ b t, r = b :: t → dig b = false
theorem Stops.cons {b : UInt8} {r : Bs} (h : dig b = false) : Stops (b :: r) := fun _ _ e => by cases e; exact h
theorem Stops.nil : Stops [] := fun _ _ e => by cases e
def valOf (l : Bs) : Nat := l.foldl (fun a b => a * 10 + (b.toNat - 48)) 0
theorem u8_nat {k : Nat} (h : k < 256) : (UInt8.ofNat k).toNat = k := by
  first
    | exact UInt8.toNat_ofNat_of_lt' h
    | (simp [UInt8.toNat_ofNat']; omega)
    | (simp; omega)
theorem dig_of {d : Nat} (h : d < 10) : dig (UInt8.ofNat (48 + d)) = true := by
  unfold dig
  rw [u8_nat (by omega), decide_eq_true (by omega), decide_eq_true (by omega)]
  rfl
theorem dec_dig (n : Nat) : ∀ b ∈ decDigits n, dig b = true := by
  induction n using Nat.strongRecOn with
  | _ n ih =>
    intro b hb
    rw [decDigits] at hb
    split at hb
    · rw [List.mem_singleton] at hb
      subst hb
      exact dig_of (by omega)
    · rcases List.mem_append.1 hb with hb | hb
      · exact ih (n / 10) (by omega) b hb
      · rw [List.mem_singleton] at hb
        subst hb
        exact dig_of (by omega)
theorem dec_val (n : Nat) : valOf (decDigits n) = n := by
  induction n using Nat.strongRecOn with
  | _ n ih =>
    rw [decDigits]
    split
    · simp only [valOf, List.foldl_cons, List.foldl_nil]
      rw [u8_nat (by omega)]
      omega
    · have h := ih (n / 10) (by omega)
      unfold valOf at h ⊢
      rw [List.foldl_append, h]
      simp only [List.foldl_cons, List.foldl_nil]
      rw [u8_nat (by omega)]
      omega
theorem dec_span {l r : Bs} (h : ∀ b ∈ l, dig b = true) (hr : Stops r) : (l ++ r).takeWhile dig = l := by
  induction l with
  | nil =>
    cases r with
    | nil => rfl
    | cons b t => rw [List.nil_append, List.takeWhile_cons, hr b t rfl]; rfl
  | cons a l ih =>
    rw [List.cons_append, List.takeWhile_cons, h a (by simp), if_pos rfl, ih fun b hb => h b (by simp [hb])]
theorem dec_cut {a b : Nat} {r t : Bs} (h : decDigits a ++ r = decDigits b ++ t) (hr : Stops r) (ht : Stops t) : a = b ∧ r = t := by
  have e1 := dec_span (dec_dig a) hr
  have e2 := dec_span (dec_dig b) ht
  rw [h, e2] at e1
  have e3 : a = b := by rw [← dec_val a, ← dec_val b, e1]
  subst e3
  exact ⟨rfl, List.append_cancel_left h⟩
theorem dec_first (n : Nat) : ∃ b t, decDigits n = b :: t ∧ dig b = true := by
  have hd := dec_dig n
  cases hl : decDigits n with
  | nil =>
    have h := decDigits_length n
    rw [hl] at h
    have := nDigits_pos n
    simp at h
    omega
  | cons b t => exact ⟨b, t, rfl, hd b (by rw [hl]; simp)⟩
theorem itoa_cut {a b : Int} {r t : Bs} (h : itoa a ++ r = itoa b ++ t) (hr : Stops r) (ht : Stops t) : a = b ∧ r = t := by
  have d45 : dig 45 = false := by decide
  unfold itoa at h
  split at h
  · split at h
    · simp only [List.cons_append, List.cons.injEq, true_and] at h
      obtain ⟨e, e2⟩ := dec_cut h hr ht
      exact ⟨by omega, e2⟩
    · obtain ⟨x, u, e, hx⟩ := dec_first b.toNat
      rw [e] at h
      simp only [List.cons_append, List.cons.injEq] at h
      rw [← h.1, d45] at hx
      cases hx
  · split at h
    · obtain ⟨x, u, e, hx⟩ := dec_first a.toNat
      rw [e] at h
      simp only [List.cons_append, List.cons.injEq] at h
      rw [h.1, d45] at hx
      cases hx
    · obtain ⟨e, e2⟩ := dec_cut h hr ht
      exact ⟨by omega, e2⟩
theorem zero_shape {v : Val} (h : isZeroV v = true) : v.k = 0 ∧ v.n = 0 ∧ v.s.toList = [] := by
  simpa [isZeroV, and_assoc] using h
theorem head_shape {op : Int} {v : Val} {rel col n : Int} {s : ByteArray} {len : Nat} (h : headOk op v rel col n s len = true) : s.toList = [] ∧
    ((op = 1 ∧ rel = 0 ∧ col = 0 ∧ n = 0 ∧ len = 0 ∧ v.right = true) ∨ (op = 2 ∧ isZeroV v = true ∧ n = 0 ∧ len = 0) ∨ (op = 3 ∧ isZeroV v = true ∧ rel = 0 ∧ col = 0 ∧ len = 0) ∨ (4 ≤ op ∧ op ≤ 18 ∧ isZeroV v = true ∧ rel = 0 ∧ col = 0 ∧ n = 0 ∧ (len : Int) = wantsOf op)) := by
  unfold headOk at h
  simp only [Bool.and_eq_true, beq_iff_eq, Bool.or_eq_true] at h
  obtain ⟨⟨⟨⟨⟨h1, h2⟩, h3⟩, h4⟩, h5⟩, h6⟩ := h
  refine ⟨h2, ?_⟩
  have hr : 1 ≤ op ∧ op ≤ 18 := by
    unfold wantsOf at h1
    split at h1 <;> omega
  by_cases e1 : op = 1
  · subst e1
    simp [wantsOf] at h1 h5 h6
    exact .inl ⟨rfl, h5.1, h5.2, h6, by omega, h3⟩
  · have hz : isZeroV v = true := h4.resolve_left e1
    by_cases e2 : op = 2
    · subst e2
      simp [wantsOf] at h1 h6
      exact .inr (.inl ⟨rfl, hz, h6, by omega⟩)
    · rw [if_neg e2] at h5
      simp only [Bool.and_eq_true, beq_iff_eq] at h5
      by_cases e3 : op = 3
      · subst e3
        simp [wantsOf] at h1
        exact .inr (.inr (.inl ⟨rfl, hz, h5.1, h5.2, by omega⟩))
      · rw [if_neg e3, beq_iff_eq] at h6
        exact .inr (.inr (.inr ⟨by omega, hr.2, hz, h5.1, h5.2, h6, h1.symm⟩))
def printV (v : Val) : Bs := if v.k = 0 then [78] else if v.k = 1 then 73 :: itoa v.n else if v.k = 2 then 66 :: itoa v.n else 84 :: itoa v.s.size ++ [58] ++ v.s.data.toList
theorem right_shape {v : Val} (h : v.right = true) : (v.k = 0 ∧ v.n = 0 ∧ v.s.toList = []) ∨ (v.k = 1 ∧ v.s.toList = []) ∨ (v.k = 2 ∧ v.s.toList = []) ∨ (v.k = 3 ∧ v.n = 0) := by
  unfold Val.right at h
  split at h
  · simp at h; exact .inl ⟨‹_›, h.1, h.2⟩
  · split at h
    · simp at h; exact .inr (.inl ⟨‹_›, h⟩)
    · split at h
      · simp at h; exact .inr (.inr (.inl ⟨‹_›, h.2⟩))
      · split at h
        · simp at h; exact .inr (.inr (.inr ⟨‹_›, h.1⟩))
        · cases h
theorem toList_data (s : ByteArray) : s.toList = s.data.toList := ByteArray.toList_eq s
theorem printV_cut {v u : Val} {r t : Bs} (hv : v.right = true) (hu : u.right = true) (h : printV v ++ r = printV u ++ t) (hr : Stops r) (ht : Stops t) : (v.k = u.k ∧ v.n = u.n ∧ v.s.toList = u.s.toList) ∧ r = t := by
  unfold printV at h
  rcases right_shape hv with ⟨a1, a2, a3⟩ | ⟨a1, a2⟩ | ⟨a1, a2⟩ | ⟨a1, a2⟩
  all_goals rcases right_shape hu with ⟨b1, b2, b3⟩ | ⟨b1, b2⟩ | ⟨b1, b2⟩ | ⟨b1, b2⟩
  all_goals rw [a1, b1] at h
  all_goals simp at h
  · exact ⟨⟨by rw [a1, b1], by rw [a2, b2], by rw [a3, b3]⟩, h⟩
  · obtain ⟨e, e2⟩ := itoa_cut h hr ht
    exact ⟨⟨by rw [a1, b1], e, by rw [a2, b2]⟩, e2⟩
  · obtain ⟨e, e2⟩ := itoa_cut h hr ht
    exact ⟨⟨by rw [a1, b1], e, by rw [a2, b2]⟩, e2⟩
  · obtain ⟨e, e2⟩ := itoa_cut h (Stops.cons (by decide)) (Stops.cons (by decide))
    simp only [List.cons.injEq, true_and] at e2
    have hl : v.s.data.toList.length = u.s.data.toList.length := by simp only [Array.length_toList]; exact Int.ofNat.inj e
    obtain ⟨e3, e4⟩ := List.append_inj e2 hl
    exact ⟨⟨by rw [a1, b1], by rw [a2, b2], by rw [toList_data, toList_data, e3]⟩, e4⟩
theorem print_leaf1 {v : Val} {rel col n : Int} {s : ByteArray} {l : List Ex} : (Ex.mk 1 v rel col n s l).print = printV v := by rw [Ex.print, if_pos rfl]; rfl
theorem print_op {op : Int} {v : Val} {rel col n : Int} {s : ByteArray} {l : List Ex} (h : 4 ≤ op) : (Ex.mk op v rel col n s l).print = 40 :: itoa op ++ printL l ++ [41] := by rw [Ex.print, if_neg (by omega), if_neg (by omega), if_neg (by omega)]
theorem printV_first {v : Val} : ∃ b t, printV v = b :: t ∧ b ≠ 82 ∧ b ≠ 80 ∧ b ≠ 40 := by
  unfold printV
  split
  · exact ⟨78, [], rfl, by decide, by decide, by decide⟩
  · split
    · exact ⟨73, _, rfl, by decide, by decide, by decide⟩
    · split
      · exact ⟨66, _, rfl, by decide, by decide, by decide⟩
      · exact ⟨84, _, rfl, by decide, by decide, by decide⟩
theorem printL_first {l : List Ex} {r : Bs} (hl : l ≠ []) : ∃ t, printL l ++ r = 32 :: t := by
  cases l with
  | nil => exact absurd rfl hl
  | cons x l => exact ⟨x.print ++ (printL l ++ r), by rw [printL]; simp⟩
theorem stops_list {l : List Ex} {r : Bs} : Stops (printL l ++ 41 :: r) := by
  cases l with
  | nil => rw [printL]; exact Stops.cons (by decide)
  | cons x l =>
    obtain ⟨t, e⟩ := printL_first (l := x :: l) (r := 41 :: r) (by simp)
    rw [e]
    exact Stops.cons (by decide)
theorem stops_list' {l : List Ex} {r : Bs} (hr : Stops r) : Stops (printL l ++ r) := by
  cases l with
  | nil => rw [printL]; exact hr
  | cons x l =>
    obtain ⟨t, e⟩ := printL_first (l := x :: l) (r := r) (by simp)
    rw [e]
    exact Stops.cons (by decide)
mutual
theorem print_cut : ∀ (x y : Ex) (r t : Bs), x.okAll = true → y.okAll = true → x.print ++ r = y.print ++ t → Stops r → Stops t → sameE x y = true ∧ r = t
  | .mk op v rel col n s l, .mk op' v' rel' col' n' s' l', r, t, hx, hy, h, hr, ht => by
    rw [Ex.okAll, Bool.and_eq_true] at hx hy
    obtain ⟨hx, hxl⟩ := hx
    obtain ⟨hy, hyl⟩ := hy
    have sx := (head_shape hx).2
    have sy := (head_shape hy).2
    rcases sx with ⟨rfl, rfl, rfl, rfl, x4, x5⟩ | ⟨rfl, xv, rfl, x4⟩ | ⟨rfl, xv, rfl, rfl, x4⟩ | ⟨xa, xb, xv, rfl, rfl, rfl, x4⟩
    · rw [print_leaf1] at h
      rcases sy with ⟨rfl, rfl, rfl, rfl, y4, y5⟩ | ⟨rfl, yv, rfl, y4⟩ | ⟨rfl, yv, rfl, rfl, y4⟩ | ⟨ya, yb, yv, rfl, rfl, rfl, y4⟩
      · rw [print_leaf1] at h
        obtain ⟨⟨e1, e2, e3⟩, e4⟩ := printV_cut x5 y5 h hr ht
        rw [List.length_eq_zero_iff] at x4 y4
        subst x4 y4
        refine ⟨?_, e4⟩
        rw [sameE, sameL, e1, e2, e3]
        simp
      · obtain ⟨b, u, e, n1, n2, n3⟩ := printV_first (v := v)
        rw [e, Ex.print, if_neg (by decide), if_pos rfl] at h
        simp at h
        exact absurd h.1 n1
      · obtain ⟨b, u, e, n1, n2, n3⟩ := printV_first (v := v)
        rw [e, Ex.print, if_neg (by decide), if_neg (by decide), if_pos rfl] at h
        simp at h
        exact absurd h.1 n2
      · obtain ⟨b, u, e, n1, n2, n3⟩ := printV_first (v := v)
        rw [e, print_op ya] at h
        simp at h
        exact absurd h.1 n3
    · rw [Ex.print, if_neg (by decide), if_pos rfl] at h
      rcases sy with ⟨rfl, rfl, rfl, rfl, y4, y5⟩ | ⟨rfl, yv, rfl, y4⟩ | ⟨rfl, yv, rfl, rfl, y4⟩ | ⟨ya, yb, yv, rfl, rfl, rfl, y4⟩
      · obtain ⟨b, u, e, n1, n2, n3⟩ := printV_first (v := v')
        rw [print_leaf1, e] at h
        simp at h
        exact absurd h.1.symm n1
      · rw [Ex.print, if_neg (by decide), if_pos rfl] at h
        simp at h
        obtain ⟨e1, e2⟩ := itoa_cut h (Stops.cons (by decide)) (Stops.cons (by decide))
        simp only [List.cons.injEq, true_and] at e2
        obtain ⟨e3, e4⟩ := itoa_cut e2 hr ht
        rw [List.length_eq_zero_iff] at x4 y4
        subst x4 y4 e1 e3
        refine ⟨?_, e4⟩
        obtain ⟨z1, z2, z3⟩ := zero_shape xv
        obtain ⟨w1, w2, w3⟩ := zero_shape yv
        rw [sameE, sameL, z1, z2, z3, w1, w2, w3]
        simp
      · rw [Ex.print, if_neg (by decide), if_neg (by decide), if_pos rfl] at h
        simp at h
      · rw [print_op ya] at h
        simp at h
    · rw [Ex.print, if_neg (by decide), if_neg (by decide), if_pos rfl] at h
      rcases sy with ⟨rfl, rfl, rfl, rfl, y4, y5⟩ | ⟨rfl, yv, rfl, y4⟩ | ⟨rfl, yv, rfl, rfl, y4⟩ | ⟨ya, yb, yv, rfl, rfl, rfl, y4⟩
      · obtain ⟨b, u, e, n1, n2, n3⟩ := printV_first (v := v')
        rw [print_leaf1, e] at h
        simp at h
        exact absurd h.1.symm n2
      · rw [Ex.print, if_neg (by decide), if_pos rfl] at h
        simp at h
      · rw [Ex.print, if_neg (by decide), if_neg (by decide), if_pos rfl] at h
        simp at h
        obtain ⟨e3, e4⟩ := itoa_cut h hr ht
        rw [List.length_eq_zero_iff] at x4 y4
        subst x4 y4 e3
        refine ⟨?_, e4⟩
        obtain ⟨z1, z2, z3⟩ := zero_shape xv
        obtain ⟨w1, w2, w3⟩ := zero_shape yv
        rw [sameE, sameL, z1, z2, z3, w1, w2, w3]
        simp
      · rw [print_op ya] at h
        simp at h
    · rw [print_op xa] at h
      rcases sy with ⟨rfl, rfl, rfl, rfl, y4, y5⟩ | ⟨rfl, yv, rfl, y4⟩ | ⟨rfl, yv, rfl, rfl, y4⟩ | ⟨ya, yb, yv, rfl, rfl, rfl, y4⟩
      · obtain ⟨b, u, e, n1, n2, n3⟩ := printV_first (v := v')
        rw [print_leaf1, e] at h
        simp at h
        exact absurd h.1.symm n3
      · rw [Ex.print, if_neg (by decide), if_pos rfl] at h
        simp at h
      · rw [Ex.print, if_neg (by decide), if_neg (by decide), if_pos rfl] at h
        simp at h
      · rw [print_op ya] at h
        simp at h
        obtain ⟨e1, e2⟩ := itoa_cut h stops_list stops_list
        subst e1
        have hlen : l.length = l'.length := by omega
        obtain ⟨e3, e4⟩ := printL_cut l l' _ _ hxl hyl hlen e2 (Stops.cons (by decide)) (Stops.cons (by decide))
        simp only [List.cons.injEq, true_and] at e4
        refine ⟨?_, e4⟩
        obtain ⟨z1, z2, z3⟩ := zero_shape xv
        obtain ⟨w1, w2, w3⟩ := zero_shape yv
        rw [sameE, e3, z1, z2, z3, w1, w2, w3]
        simp
theorem printL_cut : ∀ (l m : List Ex) (r t : Bs), okL l = true → okL m = true → l.length = m.length → printL l ++ r = printL m ++ t → Stops r → Stops t → sameL l m = true ∧ r = t
  | [], [], r, t, _, _, _, h, _, _ => by rw [printL] at h; exact ⟨by rw [sameL], by simpa using h⟩
  | x :: l, y :: m, r, t, hx, hy, hl, h, hr, ht => by
    rw [okL, Bool.and_eq_true] at hx hy
    rw [printL, printL] at h
    simp only [List.cons_append, List.cons.injEq, true_and, List.append_assoc] at h
    obtain ⟨e1, e2⟩ := print_cut x y _ _ hx.1 hy.1 h (stops_list' hr) (stops_list' ht)
    obtain ⟨e3, e4⟩ := printL_cut l m r t hx.2 hy.2 (by simpa using hl) e2 hr ht
    exact ⟨by rw [sameL, e1, e3]; rfl, e4⟩
  | [], _ :: _, _, _, _, _, hl, _, _, _ => absurd hl (by simp)
  | _ :: _, [], _, _, _, _, hl, _, _, _ => absurd hl (by simp)
end
mutual
theorem print_same : ∀ (x y : Ex), sameE x y = true → x.print = y.print
  | .mk op v rel col n s l, .mk op' v' rel' col' n' s' l', h => by
    rw [sameE] at h
    simp only [Bool.and_eq_true, beq_iff_eq] at h
    obtain ⟨⟨⟨⟨⟨rfl, ⟨hk, hn⟩, hs⟩, rfl⟩, rfl⟩, rfl⟩, hl⟩ := h
    obtain ⟨k, n0, s0⟩ := v
    obtain ⟨k', n0', s0'⟩ := v'
    simp only at hk hn hs
    have hs' : s0 = s0' := ba_eq.2 hs
    subst hk hn hs'
    rw [Ex.print, Ex.print, printL_same l l' hl]
theorem printL_same : ∀ (l m : List Ex), sameL l m = true → printL l = printL m
  | [], [], _ => rfl
  | x :: l, y :: m, h => by
    rw [sameL, Bool.and_eq_true] at h
    rw [printL, printL, print_same x y h.1, printL_same l m h.2]
  | [], _ :: _, h => by simp [sameL] at h
  | _ :: _, [], h => by simp [sameL] at h
end
theorem print_iff {x y : Ex} (hx : x.okAll = true) (hy : y.okAll = true) : x.print = y.print ↔ sameE x y = true :=
  ⟨fun h => (print_cut x y [] [] hx hy (by rw [h]) Stops.nil Stops.nil).1, print_same x y⟩
open Go.RowKit
def ordI (a b : Int) : Int := if a < b then -1 else if b < a then 1 else 0
def ordS (a b : ByteArray) : Int := if Op.bytesLess a.toList b.toList then -1 else if a.toList = b.toList then 0 else 1
def or3 (x y z : Int) : Int := if x != 0 then x else if y != 0 then y else z
def Val.cmp (x y : Val) : Int := or3 (ordI x.k y.k) (ordI x.n y.n) (ordS x.s y.s)
set_option maxHeartbeats 400000 in
theorem ordI_any (a b : Int) (w : World) :
    Calls Tryz.prog 71 #[.int .i64 a, .int .i64 b] w fun e w' => e = .returned (.int .i64 (ordI a b)) ∧ w = w' := by
  go_enter Tryz.func71, Tryz.ntmps71
  go_wp2
  all_goals go_ret
  all_goals refine ⟨?_, rfl⟩
  all_goals first | (simp_all [ordI]; done) | (unfold ordI; rw [if_neg (by omega), if_neg (by omega)]; rfl)
set_option maxHeartbeats 400000 in
theorem ordS_any (a b : ByteArray) (w : World) :
    Calls Tryz.prog 72 #[.string a, .string b] w fun e w' => e = .returned (.int .i64 (ordS a b)) ∧ w = w' := by
  go_enter Tryz.func72, Tryz.ntmps72
  go_wp2
  all_goals go_ret
  all_goals refine ⟨?_, rfl⟩
  all_goals (simp_all [ordS]; done)
set_option maxHeartbeats 400000 in
theorem cmpOr_any (a : Nat) (x y z : Int) (w : World) (h0 : w.cell? ⟨a, 0, none⟩ = some (.int .i64 x)) (h1 : w.cell? ⟨a, 1, none⟩ = some (.int .i64 y)) (h2 : w.cell? ⟨a, 2, none⟩ = some (.int .i64 z)) :
    Calls Tryz.prog 70 #[.slice (some ⟨a, 0, none⟩) 3 3] w fun e w' => e = .returned (.int .i64 (or3 x y z)) ∧ w = w' := by
  cases hx : x != 0
  · cases hy : y != 0
    · cases hz : z != 0
      · have hz0 : z = 0 := by simpa using hz
        subst hz0
        go_enter Tryz.func70, Tryz.ntmps70
        go_wp2
        refine wp_loop_rounds 4 ?_
        repeat any_goals (rw [rounds_succ]; go_wp2)
        go_ret
        exact ⟨by simp_all [or3], rfl⟩
      · go_enter Tryz.func70, Tryz.ntmps70
        go_wp2
        refine wp_loop_rounds 4 ?_
        repeat any_goals (rw [rounds_succ]; go_wp2)
        go_ret
        exact ⟨by simp_all [or3], rfl⟩
    · go_enter Tryz.func70, Tryz.ntmps70
      go_wp2
      refine wp_loop_rounds 4 ?_
      repeat any_goals (rw [rounds_succ]; go_wp2)
      go_ret
      exact ⟨by simp_all [or3], rfl⟩
  · go_enter Tryz.func70, Tryz.ntmps70
    go_wp2
    refine wp_loop_rounds 4 ?_
    repeat any_goals (rw [rounds_succ]; go_wp2)
    go_ret
    exact ⟨by simp_all [or3], rfl⟩
set_option maxHeartbeats 1000000 in
theorem compare_any (x y : Val) (w : World) :
    Calls Tryz.prog 59 #[x.v, y.v] w fun e w' => e = .returned (.int .i64 (x.cmp y)) ∧ Below w.heap.size w w' := by
  obtain ⟨k, n, s⟩ := x
  obtain ⟨l, m, t⟩ := y
  go_enter Tryz.func59, Tryz.ntmps59
  go_wp2
  go_region_held3 (fun w' => w'.cell? ⟨w.heap.size, 0, none⟩ = some (.int .i64 k) ∧ w'.cell? ⟨w.heap.size, 1, none⟩ = some (.int .i64 n) ∧ w'.cell? ⟨w.heap.size, 2, none⟩ = some (.string s) ∧ w'.cell? ⟨w.heap.size + 1, 0, none⟩ = some (.int .i64 l) ∧ w'.cell? ⟨w.heap.size + 1, 1, none⟩ = some (.int .i64 m) ∧ w'.cell? ⟨w.heap.size + 1, 2, none⟩ = some (.string t))
    (go_keep) (first | (go_at_call 71; refine (ordI_any _ _ _).mono ?_; rintro e w1 ⟨rfl, rfl⟩) | (go_at_call 72; refine (ordS_any _ _ _).mono ?_; rintro e w1 ⟨rfl, rfl⟩) | (go_at_call 70; refine (cmpOr_any _ (ordI k l) (ordI n m) (ordS s t) _ ?_ ?_ ?_).mono ?_; (all_goals try (simp [go_sem]; done)); rintro e w1 ⟨rfl, rfl⟩))
  go_wp2
  go_ret
  refine ⟨rfl, ?_⟩
  (repeat (first | exact ext_refl _ | assumption | (refine ext_alloc ?_ _) | (refine ext_drewN ?_ _) | refine ext_drew ?_ | (refine ext_set (by first | (simp; done) | (simp; omega)) _ ?_) | (refine ext_trans ?_ (by assumption))))
open Go.RowKit
theorem bytesLess_self : ∀ a : List UInt8, Op.bytesLess a a = false
  | [] => rfl
  | a :: x => by
    rw [Op.bytesLess, bytesLess_self x, Bool.and_false, Bool.or_false]
    simp
def holdsB (op c : Int) : Bool :=
  if op = 9 then c == 0 else if op = 10 then c != 0 else if op = 11 then decide (c < 0) else if op = 12 then decide (c ≤ 0) else if op = 13 then decide (0 < c) else if op = 14 then decide (0 ≤ c) else false
set_option maxHeartbeats 400000 in
theorem holds_any (op c : Int) (w : World) :
    Calls Tryz.prog 58 #[.int .i64 op, .int .i64 c] w fun e w' => e = .returned (.bool (holdsB op c)) ∧ w = w' := by
  go_enter Tryz.func58, Tryz.ntmps58
  go_wp2
  all_goals go_ret
  all_goals refine ⟨?_, rfl⟩
  all_goals (simp_all [holdsB]; done)
def testable (op : Int) (x y : Val) : Bool := decide (9 ≤ op) && decide (op ≤ 14) && x.right && y.right && (x.k == 0 || y.k == 0 || x.k == y.k)
def testS (op : Int) (x y : Val) : Val × Int :=
  if testable op x y then (if x.k == 0 || y.k == 0 then (nul, 0) else (tru (bit (holdsB op (x.cmp y))), 0)) else (nul, 1)
def Refused (op : Int) (x y : Val) : Prop :=
  op < 9 ∨ (9 ≤ op ∧ 14 < op) ∨ (9 ≤ op ∧ op ≤ 14 ∧ x.right = false) ∨ (9 ≤ op ∧ op ≤ 14 ∧ x.right = true ∧ y.right = false) ∨
    (9 ≤ op ∧ op ≤ 14 ∧ x.right = true ∧ y.right = true ∧ (x.k == 0) = false ∧ (y.k == 0) = false ∧ (x.k != y.k) = true)
theorem refused {op : Int} {x y : Val} (h : testable op x y = false) : Refused op x y := by
  by_cases h1 : op < 9
  · exact .inl h1
  by_cases h2 : 14 < op
  · exact .inr (.inl ⟨by omega, h2⟩)
  have h3 : 9 ≤ op := by omega
  have h4 : op ≤ 14 := by omega
  cases h5 : x.right
  · exact .inr (.inr (.inl ⟨h3, h4, h5⟩))
  cases h6 : y.right
  · exact .inr (.inr (.inr (.inl ⟨h3, h4, h5, h6⟩)))
  simp only [testable, h3, h4, h5, h6, decide_true, Bool.true_and, Bool.or_eq_false_iff] at h
  exact .inr (.inr (.inr (.inr ⟨h3, h4, h5, h6, h.1.1, h.1.2, by rw [bne, h.2]; rfl⟩)))
set_option maxHeartbeats 400000 in
theorem test_low (op k n l m : Int) (s t : ByteArray) (w : World) (h : op < 9) (hn : (k == 0) = true ∨ (k == 0) = false ∧ (l == 0) = true ∨ (k == 0) = false ∧ (l == 0) = false) :
    Calls Tryz.prog 39 #[.int .i64 op, (Val.mk k n s).v, (Val.mk l m t).v] w fun e w' => e = .returned (.tuple #[nul.v, .int .i64 1]) ∧ Below w.heap.size w w' := by
  rcases hn with h3 | ⟨h3, h4⟩ | ⟨h3, h4⟩
  all_goals go_enter Tryz.func39, Tryz.ntmps39
  all_goals go_wp2_with (first | (go_at_call 56; go_must (refine (isNull_any ⟨_, _, _⟩ _).mono ?_; rintro e w1 ⟨rfl, hb⟩; obtain ⟨hc, hz, hf⟩ := kept hb; have hz2 : w.heap.size + 1 + 1 < w1.heap.size := hz _ (by first | (simp; done) | (simp; omega) | assumption); have hz1 : w.heap.size + 1 < w1.heap.size := hz _ (by first | (simp; done) | (simp; omega) | assumption); have hz0 : w.heap.size < w1.heap.size := hz _ (by first | (simp; done) | (simp; omega) | assumption))))
  all_goals (refine bodyPost_ret (v := .tuple #[nul.v, .int .i64 1]) (by simp [results, Tryz.results39, go_sem, *]) rfl ⟨by (rfl), ?_⟩; (repeat (first | exact ext_refl _ | assumption | (refine ext_alloc ?_ _) | (refine ext_drewN ?_ _) | refine ext_drew ?_ | (refine ext_set (by first | (simp; done) | (simp; omega)) _ ?_) | (refine ext_trans ?_ (by assumption)))))
set_option maxHeartbeats 400000 in
theorem test_high (op k n l m : Int) (s t : ByteArray) (w : World) (h : 9 ≤ op) (h' : 14 < op) (hn : (k == 0) = true ∨ (k == 0) = false ∧ (l == 0) = true ∨ (k == 0) = false ∧ (l == 0) = false) :
    Calls Tryz.prog 39 #[.int .i64 op, (Val.mk k n s).v, (Val.mk l m t).v] w fun e w' => e = .returned (.tuple #[nul.v, .int .i64 1]) ∧ Below w.heap.size w w' := by
  rcases hn with h3 | ⟨h3, h4⟩ | ⟨h3, h4⟩
  all_goals go_enter Tryz.func39, Tryz.ntmps39
  all_goals go_wp2_with (first | (go_at_call 56; go_must (refine (isNull_any ⟨_, _, _⟩ _).mono ?_; rintro e w1 ⟨rfl, hb⟩; obtain ⟨hc, hz, hf⟩ := kept hb; have hz2 : w.heap.size + 1 + 1 < w1.heap.size := hz _ (by first | (simp; done) | (simp; omega) | assumption); have hz1 : w.heap.size + 1 < w1.heap.size := hz _ (by first | (simp; done) | (simp; omega) | assumption); have hz0 : w.heap.size < w1.heap.size := hz _ (by first | (simp; done) | (simp; omega) | assumption))))
  all_goals (refine bodyPost_ret (v := .tuple #[nul.v, .int .i64 1]) (by simp [results, Tryz.results39, go_sem, *]) rfl ⟨by (rfl), ?_⟩; (repeat (first | exact ext_refl _ | assumption | (refine ext_alloc ?_ _) | (refine ext_drewN ?_ _) | refine ext_drew ?_ | (refine ext_set (by first | (simp; done) | (simp; omega)) _ ?_) | (refine ext_trans ?_ (by assumption)))))
set_option maxHeartbeats 400000 in
theorem test_one (op k n l m : Int) (s t : ByteArray) (w : World) (h : 9 ≤ op) (h' : op ≤ 14) (h1 : Val.right ⟨k, n, s⟩ = false) (hn : (k == 0) = true ∨ (k == 0) = false ∧ (l == 0) = true ∨ (k == 0) = false ∧ (l == 0) = false) :
    Calls Tryz.prog 39 #[.int .i64 op, (Val.mk k n s).v, (Val.mk l m t).v] w fun e w' => e = .returned (.tuple #[nul.v, .int .i64 1]) ∧ Below w.heap.size w w' := by
  have H1 := Lib.hid h1
  clear h1
  rcases hn with h3 | ⟨h3, h4⟩ | ⟨h3, h4⟩
  all_goals go_enter Tryz.func39, Tryz.ntmps39
  all_goals go_wp2_with (first | (go_at_call 56; go_must (refine (isNull_any ⟨_, _, _⟩ _).mono ?_; rintro e w1 ⟨rfl, hb⟩; obtain ⟨hc, hz, hf⟩ := kept hb; have hz2 : w.heap.size + 1 + 1 < w1.heap.size := hz _ (by first | (simp; done) | (simp; omega) | assumption); have hz1 : w.heap.size + 1 < w1.heap.size := hz _ (by first | (simp; done) | (simp; omega) | assumption); have hz0 : w.heap.size < w1.heap.size := hz _ (by first | (simp; done) | (simp; omega) | assumption))) | (go_at_call 57; go_must (refine (right_any ⟨_, _, _⟩ _).mono ?_; rintro e w1 ⟨rfl, hb⟩; obtain ⟨hc, hz, hf⟩ := kept hb; have hz2 : w.heap.size + 1 + 1 < w1.heap.size := hz _ (by first | (simp; done) | (simp; omega) | assumption); have hz1 : w.heap.size + 1 < w1.heap.size := hz _ (by first | (simp; done) | (simp; omega) | assumption); have hz0 : w.heap.size < w1.heap.size := hz _ (by first | (simp; done) | (simp; omega) | assumption); rw [H1.out])))
  all_goals (refine bodyPost_ret (v := .tuple #[nul.v, .int .i64 1]) (by simp [results, Tryz.results39, go_sem, *]) rfl ⟨by (rfl), ?_⟩; (repeat (first | exact ext_refl _ | assumption | (refine ext_alloc ?_ _) | (refine ext_drewN ?_ _) | refine ext_drew ?_ | (refine ext_set (by first | (simp; done) | (simp; omega)) _ ?_) | (refine ext_trans ?_ (by assumption)))))
set_option maxHeartbeats 400000 in
theorem test_two (op k n l m : Int) (s t : ByteArray) (w : World) (h : 9 ≤ op) (h' : op ≤ 14) (h1 : Val.right ⟨k, n, s⟩ = true) (h2 : Val.right ⟨l, m, t⟩ = false) (hn : (k == 0) = true ∨ (k == 0) = false ∧ (l == 0) = true ∨ (k == 0) = false ∧ (l == 0) = false) :
    Calls Tryz.prog 39 #[.int .i64 op, (Val.mk k n s).v, (Val.mk l m t).v] w fun e w' => e = .returned (.tuple #[nul.v, .int .i64 1]) ∧ Below w.heap.size w w' := by
  have H1 := Lib.hid h1
  have H2 := Lib.hid h2
  clear h1 h2
  rcases hn with h3 | ⟨h3, h4⟩ | ⟨h3, h4⟩
  all_goals go_enter Tryz.func39, Tryz.ntmps39
  all_goals go_wp2_with (first | (go_at_call 56; go_must (refine (isNull_any ⟨_, _, _⟩ _).mono ?_; rintro e w1 ⟨rfl, hb⟩; obtain ⟨hc, hz, hf⟩ := kept hb; have hz2 : w.heap.size + 1 + 1 < w1.heap.size := hz _ (by first | (simp; done) | (simp; omega) | assumption); have hz1 : w.heap.size + 1 < w1.heap.size := hz _ (by first | (simp; done) | (simp; omega) | assumption); have hz0 : w.heap.size < w1.heap.size := hz _ (by first | (simp; done) | (simp; omega) | assumption))) | (go_at_call 57; go_must (refine (right_any ⟨_, _, _⟩ _).mono ?_; rintro e w1 ⟨rfl, hb⟩; obtain ⟨hc, hz, hf⟩ := kept hb; have hz2 : w.heap.size + 1 + 1 < w1.heap.size := hz _ (by first | (simp; done) | (simp; omega) | assumption); have hz1 : w.heap.size + 1 < w1.heap.size := hz _ (by first | (simp; done) | (simp; omega) | assumption); have hz0 : w.heap.size < w1.heap.size := hz _ (by first | (simp; done) | (simp; omega) | assumption); first | rw [H1.out] | rw [H2.out])))
  all_goals (refine bodyPost_ret (v := .tuple #[nul.v, .int .i64 1]) (by simp [results, Tryz.results39, go_sem, *]) rfl ⟨by (rfl), ?_⟩; (repeat (first | exact ext_refl _ | assumption | (refine ext_alloc ?_ _) | (refine ext_drewN ?_ _) | refine ext_drew ?_ | (refine ext_set (by first | (simp; done) | (simp; omega)) _ ?_) | (refine ext_trans ?_ (by assumption)))))
set_option maxHeartbeats 400000 in
theorem test_kinds (op k n l m : Int) (s t : ByteArray) (w : World) (h : 9 ≤ op) (h' : op ≤ 14) (h1 : Val.right ⟨k, n, s⟩ = true) (h2 : Val.right ⟨l, m, t⟩ = true) (h3 : (k == 0) = false) (h4 : (l == 0) = false) (h5 : (k != l) = true) :
    Calls Tryz.prog 39 #[.int .i64 op, (Val.mk k n s).v, (Val.mk l m t).v] w fun e w' => e = .returned (.tuple #[nul.v, .int .i64 1]) ∧ Below w.heap.size w w' := by
  have H1 := Lib.hid h1
  have H2 := Lib.hid h2
  clear h1 h2
  go_enter Tryz.func39, Tryz.ntmps39
  go_wp2_with (first | (go_at_call 56; go_must (refine (isNull_any ⟨_, _, _⟩ _).mono ?_; rintro e w1 ⟨rfl, hb⟩; obtain ⟨hc, hz, hf⟩ := kept hb; have hz2 : w.heap.size + 1 + 1 < w1.heap.size := hz _ (by first | (simp; done) | (simp; omega) | assumption); have hz1 : w.heap.size + 1 < w1.heap.size := hz _ (by first | (simp; done) | (simp; omega) | assumption); have hz0 : w.heap.size < w1.heap.size := hz _ (by first | (simp; done) | (simp; omega) | assumption))) | (go_at_call 57; go_must (refine (right_any ⟨_, _, _⟩ _).mono ?_; rintro e w1 ⟨rfl, hb⟩; obtain ⟨hc, hz, hf⟩ := kept hb; have hz2 : w.heap.size + 1 + 1 < w1.heap.size := hz _ (by first | (simp; done) | (simp; omega) | assumption); have hz1 : w.heap.size + 1 < w1.heap.size := hz _ (by first | (simp; done) | (simp; omega) | assumption); have hz0 : w.heap.size < w1.heap.size := hz _ (by first | (simp; done) | (simp; omega) | assumption); first | rw [H1.out] | rw [H2.out])))
  (refine bodyPost_ret (v := .tuple #[nul.v, .int .i64 1]) (by simp [results, Tryz.results39, go_sem, *]) rfl ⟨by (rfl), ?_⟩; (repeat (first | exact ext_refl _ | assumption | (refine ext_alloc ?_ _) | (refine ext_drewN ?_ _) | refine ext_drew ?_ | (refine ext_set (by first | (simp; done) | (simp; omega)) _ ?_) | (refine ext_trans ?_ (by assumption)))))
set_option maxHeartbeats 400000 in
theorem test_null (op k n l m : Int) (s t : ByteArray) (w : World) (h : 9 ≤ op) (h' : op ≤ 14) (h1 : Val.right ⟨k, n, s⟩ = true) (h2 : Val.right ⟨l, m, t⟩ = true) (hn : (k == 0) = true ∨ (k == 0) = false ∧ (l == 0) = true) :
    Calls Tryz.prog 39 #[.int .i64 op, (Val.mk k n s).v, (Val.mk l m t).v] w fun e w' => e = .returned (.tuple #[nul.v, .int .i64 0]) ∧ Below w.heap.size w w' := by
  have H1 := Lib.hid h1
  have H2 := Lib.hid h2
  clear h1 h2
  rcases hn with h3 | ⟨h3, h4⟩
  all_goals go_enter Tryz.func39, Tryz.ntmps39
  all_goals go_wp2_with (first | (go_at_call 56; go_must (refine (isNull_any ⟨_, _, _⟩ _).mono ?_; rintro e w1 ⟨rfl, hb⟩; obtain ⟨hc, hz, hf⟩ := kept hb; have hz2 : w.heap.size + 1 + 1 < w1.heap.size := hz _ (by first | (simp; done) | (simp; omega) | assumption); have hz1 : w.heap.size + 1 < w1.heap.size := hz _ (by first | (simp; done) | (simp; omega) | assumption); have hz0 : w.heap.size < w1.heap.size := hz _ (by first | (simp; done) | (simp; omega) | assumption))) | (go_at_call 57; go_must (refine (right_any ⟨_, _, _⟩ _).mono ?_; rintro e w1 ⟨rfl, hb⟩; obtain ⟨hc, hz, hf⟩ := kept hb; have hz2 : w.heap.size + 1 + 1 < w1.heap.size := hz _ (by first | (simp; done) | (simp; omega) | assumption); have hz1 : w.heap.size + 1 < w1.heap.size := hz _ (by first | (simp; done) | (simp; omega) | assumption); have hz0 : w.heap.size < w1.heap.size := hz _ (by first | (simp; done) | (simp; omega) | assumption); first | rw [H1.out] | rw [H2.out])))
  all_goals (refine bodyPost_ret (v := .tuple #[nul.v, .int .i64 0]) (by simp [results, Tryz.results39, go_sem, *]) rfl ⟨by (rfl), ?_⟩; (repeat (first | exact ext_refl _ | assumption | (refine ext_alloc ?_ _) | (refine ext_drewN ?_ _) | refine ext_drew ?_ | (refine ext_set (by first | (simp; done) | (simp; omega)) _ ?_) | (refine ext_trans ?_ (by assumption)))))
set_option maxHeartbeats 400000 in
theorem test_said (op k n m : Int) (s t : ByteArray) (w : World) (h : 9 ≤ op) (h' : op ≤ 14) (h1 : Val.right ⟨k, n, s⟩ = true) (h2 : Val.right ⟨k, m, t⟩ = true) (h3 : (k == 0) = false) :
    Calls Tryz.prog 39 #[.int .i64 op, (Val.mk k n s).v, (Val.mk k m t).v] w fun e w' => e = .returned (.tuple #[(tru (bit (holdsB op (Val.cmp ⟨k, n, s⟩ ⟨k, m, t⟩)))).v, .int .i64 0]) ∧ Below w.heap.size w w' := by
  have H1 := Lib.hid h1
  have H2 := Lib.hid h2
  clear h1 h2
  cases hh : holdsB op (Val.cmp ⟨k, n, s⟩ ⟨k, m, t⟩)
  · have HH := Lib.hid hh
    clear hh
    go_enter Tryz.func39, Tryz.ntmps39
    go_wp2_with (first | (go_at_call 56; go_must (refine (isNull_any ⟨_, _, _⟩ _).mono ?_; rintro e w1 ⟨rfl, hb⟩; obtain ⟨hc, hz, hf⟩ := kept hb; have hz2 : w.heap.size + 1 + 1 < w1.heap.size := hz _ (by first | (simp; done) | (simp; omega) | assumption); have hz1 : w.heap.size + 1 < w1.heap.size := hz _ (by first | (simp; done) | (simp; omega) | assumption); have hz0 : w.heap.size < w1.heap.size := hz _ (by first | (simp; done) | (simp; omega) | assumption))) | (go_at_call 57; go_must (refine (right_any ⟨_, _, _⟩ _).mono ?_; rintro e w1 ⟨rfl, hb⟩; obtain ⟨hc, hz, hf⟩ := kept hb; have hz2 : w.heap.size + 1 + 1 < w1.heap.size := hz _ (by first | (simp; done) | (simp; omega) | assumption); have hz1 : w.heap.size + 1 < w1.heap.size := hz _ (by first | (simp; done) | (simp; omega) | assumption); have hz0 : w.heap.size < w1.heap.size := hz _ (by first | (simp; done) | (simp; omega) | assumption); first | rw [H1.out] | rw [H2.out])) | (go_at_call 59; go_must (refine (compare_any ⟨_, _, _⟩ ⟨_, _, _⟩ _).mono ?_; rintro e w1 ⟨rfl, hb⟩; obtain ⟨hc, hz, hf⟩ := kept hb; have hz2 : w.heap.size + 1 + 1 < w1.heap.size := hz _ (by first | (simp; done) | (simp; omega) | assumption); have hz1 : w.heap.size + 1 < w1.heap.size := hz _ (by first | (simp; done) | (simp; omega) | assumption); have hz0 : w.heap.size < w1.heap.size := hz _ (by first | (simp; done) | (simp; omega) | assumption))) | (go_at_call 58; go_must (refine (holds_any _ _ _).mono ?_; rintro e w1 ⟨rfl, rfl⟩; rw [HH.out])) | (go_at_call 54; go_must (refine (truth_any _ _).mono ?_; rintro e w1 ⟨rfl, hb⟩; obtain ⟨hc, hz, hf⟩ := kept hb; have hz2 : w.heap.size + 1 + 1 < w1.heap.size := hz _ (by first | (simp; done) | (simp; omega) | assumption); have hz1 : w.heap.size + 1 < w1.heap.size := hz _ (by first | (simp; done) | (simp; omega) | assumption); have hz0 : w.heap.size < w1.heap.size := hz _ (by first | (simp; done) | (simp; omega) | assumption))))
    (refine bodyPost_ret (v := .tuple #[(tru 0).v, .int .i64 0]) (by simp [results, Tryz.results39, go_sem, *]) rfl ⟨by (rfl), ?_⟩; (repeat (first | exact ext_refl _ | assumption | (refine ext_alloc ?_ _) | (refine ext_drewN ?_ _) | refine ext_drew ?_ | (refine ext_set (by first | (simp; done) | (simp; omega)) _ ?_) | (refine ext_trans ?_ (by assumption)))))
  · have HH := Lib.hid hh
    clear hh
    go_enter Tryz.func39, Tryz.ntmps39
    go_wp2_with (first | (go_at_call 56; go_must (refine (isNull_any ⟨_, _, _⟩ _).mono ?_; rintro e w1 ⟨rfl, hb⟩; obtain ⟨hc, hz, hf⟩ := kept hb; have hz2 : w.heap.size + 1 + 1 < w1.heap.size := hz _ (by first | (simp; done) | (simp; omega) | assumption); have hz1 : w.heap.size + 1 < w1.heap.size := hz _ (by first | (simp; done) | (simp; omega) | assumption); have hz0 : w.heap.size < w1.heap.size := hz _ (by first | (simp; done) | (simp; omega) | assumption))) | (go_at_call 57; go_must (refine (right_any ⟨_, _, _⟩ _).mono ?_; rintro e w1 ⟨rfl, hb⟩; obtain ⟨hc, hz, hf⟩ := kept hb; have hz2 : w.heap.size + 1 + 1 < w1.heap.size := hz _ (by first | (simp; done) | (simp; omega) | assumption); have hz1 : w.heap.size + 1 < w1.heap.size := hz _ (by first | (simp; done) | (simp; omega) | assumption); have hz0 : w.heap.size < w1.heap.size := hz _ (by first | (simp; done) | (simp; omega) | assumption); first | rw [H1.out] | rw [H2.out])) | (go_at_call 59; go_must (refine (compare_any ⟨_, _, _⟩ ⟨_, _, _⟩ _).mono ?_; rintro e w1 ⟨rfl, hb⟩; obtain ⟨hc, hz, hf⟩ := kept hb; have hz2 : w.heap.size + 1 + 1 < w1.heap.size := hz _ (by first | (simp; done) | (simp; omega) | assumption); have hz1 : w.heap.size + 1 < w1.heap.size := hz _ (by first | (simp; done) | (simp; omega) | assumption); have hz0 : w.heap.size < w1.heap.size := hz _ (by first | (simp; done) | (simp; omega) | assumption))) | (go_at_call 58; go_must (refine (holds_any _ _ _).mono ?_; rintro e w1 ⟨rfl, rfl⟩; rw [HH.out])) | (go_at_call 54; go_must (refine (truth_any _ _).mono ?_; rintro e w1 ⟨rfl, hb⟩; obtain ⟨hc, hz, hf⟩ := kept hb; have hz2 : w.heap.size + 1 + 1 < w1.heap.size := hz _ (by first | (simp; done) | (simp; omega) | assumption); have hz1 : w.heap.size + 1 < w1.heap.size := hz _ (by first | (simp; done) | (simp; omega) | assumption); have hz0 : w.heap.size < w1.heap.size := hz _ (by first | (simp; done) | (simp; omega) | assumption))))
    (refine bodyPost_ret (v := .tuple #[(tru 1).v, .int .i64 0]) (by simp [results, Tryz.results39, go_sem, *]) rfl ⟨by (rfl), ?_⟩; (repeat (first | exact ext_refl _ | assumption | (refine ext_alloc ?_ _) | (refine ext_drewN ?_ _) | refine ext_drew ?_ | (refine ext_set (by first | (simp; done) | (simp; omega)) _ ?_) | (refine ext_trans ?_ (by assumption)))))
theorem nulls (k l : Int) : (k == 0) = true ∨ (k == 0) = false ∧ (l == 0) = true ∨ (k == 0) = false ∧ (l == 0) = false := by
  cases k == 0 <;> cases l == 0 <;> simp
theorem test_any (op : Int) (x y : Val) (w : World) :
    Calls Tryz.prog 39 #[.int .i64 op, x.v, y.v] w fun e w' => e = .returned (.tuple #[(testS op x y).1.v, .int .i64 (testS op x y).2]) ∧ Below w.heap.size w w' := by
  obtain ⟨k, n, s⟩ := x
  obtain ⟨l, m, t⟩ := y
  cases ht : testable op ⟨k, n, s⟩ ⟨l, m, t⟩
  · rw [show testS op ⟨k, n, s⟩ ⟨l, m, t⟩ = (nul, 1) by simp only [testS, ht]; rfl]
    rcases refused ht with h | ⟨h, h'⟩ | ⟨h, h', h1⟩ | ⟨h, h', h1, h2⟩ | ⟨h, h', h1, h2, h3, h4, h5⟩
    · exact test_low op k n l m s t w h (nulls k l)
    · exact test_high op k n l m s t w h h' (nulls k l)
    · exact test_one op k n l m s t w h h' h1 (nulls k l)
    · exact test_two op k n l m s t w h h' h1 h2 (nulls k l)
    · exact test_kinds op k n l m s t w h h' h1 h2 h3 h4 h5
  · have ht' := ht
    simp only [testable, Bool.and_eq_true, decide_eq_true_eq] at ht'
    obtain ⟨⟨⟨⟨h, h'⟩, h1⟩, h2⟩, h3⟩ := ht'
    rcases nulls k l with h4 | ⟨h4, h5⟩ | ⟨h4, h5⟩
    · rw [show testS op ⟨k, n, s⟩ ⟨l, m, t⟩ = (nul, 0) by simp only [testS, ht, h4]; rfl]
      exact test_null op k n l m s t w h h' h1 h2 (.inl h4)
    · rw [show testS op ⟨k, n, s⟩ ⟨l, m, t⟩ = (nul, 0) by simp only [testS, ht, h4, h5]; rfl]
      exact test_null op k n l m s t w h h' h1 h2 (.inr ⟨h4, h5⟩)
    · have h6 : k = l := by
        rw [h4, h5] at h3
        simpa using h3
      subst h6
      rw [show testS op ⟨k, n, s⟩ ⟨k, m, t⟩ = (tru (bit (holdsB op (Val.cmp ⟨k, n, s⟩ ⟨k, m, t⟩))), 0) by simp only [testS, ht, h4]; rfl]
      exact test_said op k n m s t w h h' h1 h2 h4
end Go.Proofs.YtklgoajgchfmeaaGreatDoor
