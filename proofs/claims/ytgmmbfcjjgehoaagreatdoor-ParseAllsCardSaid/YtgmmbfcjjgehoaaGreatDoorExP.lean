/- Expressions, told by plain functions. No program is walked here. -/
import Derived.Test.YtgmmbfcjjgehoaaGreatDoorValA
import Derived.Test.YtgmmbfcjjgehoaaGreatDoorLxP
import Derived.Lib.ItoaNum
namespace Go.Proofs.YtgmmbfcjjgehoaaGreatDoor

/-- An expression: its operation, a value, a column, a parameter, a text, the operands. -/
inductive Ex where
  | mk (op : Int) (v : Val) (rel col n : Int) (s : ByteArray) (l : List Ex)
def Ex.op : Ex → Int | .mk op _ _ _ _ _ _ => op
def Ex.v : Ex → Val | .mk _ v _ _ _ _ _ => v
def Ex.rel : Ex → Int | .mk _ _ rel _ _ _ _ => rel
def Ex.col : Ex → Int | .mk _ _ _ col _ _ _ => col
def Ex.n : Ex → Int | .mk _ _ _ _ n _ _ => n
def Ex.s : Ex → ByteArray | .mk _ _ _ _ _ s _ => s
def Ex.l : Ex → List Ex | .mk _ _ _ _ _ _ l => l

/-- How many operands an operation wants; below nought: it is none. -/
def wantsOf (op : Int) : Int := if op < 1 ∨ 18 < op then -1 else if op ≤ 3 then 0 else if op = 8 ∨ op = 17 ∨ op = 18 then 1 else 2
def zeroVal : Val := ⟨0, 0, ⟨#[]⟩⟩
def isZeroV (v : Val) : Bool := v.k == 0 && v.n == 0 && v.s.toList == ([] : List UInt8)
/-- What is asked of one operation, its operands aside. -/
def headOk (op : Int) (v : Val) (rel col n : Int) (s : ByteArray) (len : Nat) : Bool :=
  (wantsOf op == (len : Int)) && (s.toList == ([] : List UInt8)) && v.right && (op == 1 || isZeroV v) &&
    (if op = 2 then decide (0 ≤ rel) && decide (rel ≤ 15) && decide (0 ≤ col) && decide (col ≤ 5) else rel == 0 && col == 0) &&
    (if op = 3 then decide (1 ≤ n) && decide (n ≤ 4) else n == 0)

mutual
def Ex.deep : Ex → Nat
  | .mk _ _ _ _ _ _ l => deepL l + 1
def deepL : List Ex → Nat
  | [] => 0
  | x :: r => max x.deep (deepL r)
end
mutual
def Ex.count : Ex → Nat
  | .mk _ _ _ _ _ _ l => countL l + 1
def countL : List Ex → Nat
  | [] => 0
  | x :: r => x.count + countL r
end
mutual
def Ex.okAll : Ex → Bool
  | .mk op v rel col n s l => headOk op v rel col n s l.length && okL l
def okL : List Ex → Bool
  | [] => true
  | x :: r => x.okAll && okL r
end
/-- How deep, how many; nothing where it is not right within most. -/
def sizesE (most : Nat) (x : Ex) : Option (Nat × Nat) := if x.okAll = true ∧ x.deep ≤ most ∧ x.count ≤ 200 then some (x.deep, x.count) else none
def rightE (x : Ex) : Bool := (sizesE 20 x).isSome

mutual
def sameE : Ex → Ex → Bool
  | .mk op v rel col n _ l, .mk op' v' rel' col' n' _ l' => op == op' && (v.k == v'.k && v.n == v'.n && v.s.toList == v'.s.toList) && rel == rel' && col == col' && n == n' && sameL l l'
def sameL : List Ex → List Ex → Bool
  | [], [] => true
  | x :: r, y :: t => sameE x y && sameL r t
  | _, _ => false
end

mutual
def Ex.print : Ex → Bs
  | .mk op v rel col n _ l =>
    if op = 1 then (if v.k = 0 then [78] else if v.k = 1 then 73 :: Lib.itoa v.n else if v.k = 2 then 66 :: Lib.itoa v.n else 84 :: Lib.itoa v.s.size ++ [58] ++ v.s.data.toList)
    else if op = 2 then 82 :: Lib.itoa rel ++ [46] ++ Lib.itoa col
    else if op = 3 then 80 :: Lib.itoa n
    else 40 :: Lib.itoa op ++ printL l ++ [41]
def printL : List Ex → Bs
  | [] => []
  | x :: r => 32 :: x.print ++ printL r
end

mutual
/-- The set of the tables, as a number. -/
def Ex.tabs : Ex → Nat
  | .mk op _ rel _ _ _ l => (if op = 2 then 2 ^ rel.toNat else 0) ||| tabsL l
def tabsL : List Ex → Nat
  | [] => 0
  | x :: r => x.tabs ||| tabsL r
end
mutual
def Ex.safe : Ex → Bool
  | .mk op _ _ _ _ _ l => !(decide (4 ≤ op) && decide (op ≤ 8)) && safeL l
def safeL : List Ex → Bool
  | [] => true
  | x :: r => x.safe && safeL r
end
/-- What is joined by AND, part by part. -/
def Ex.split : Ex → List Ex
  | .mk op v rel col n s [] => [.mk op v rel col n s []]
  | .mk op v rel col n s [a] => [.mk op v rel col n s [a]]
  | .mk op v rel col n s [a, b] => if op = 15 then a.split ++ b.split else [.mk op v rel col n s [a, b]]
  | .mk op v rel col n s (a :: b :: c :: r) => [.mk op v rel col n s (a :: b :: c :: r)]

theorem deepL_append : ∀ (a b : List Ex), deepL (a ++ b) = max (deepL a) (deepL b)
  | [], b => by simp [deepL]
  | x :: a, b => by
    rw [List.cons_append, deepL, deepL, deepL_append a b]
    omega
theorem countL_append : ∀ (a b : List Ex), countL (a ++ b) = countL a + countL b
  | [], b => by simp [countL]
  | x :: a, b => by
    rw [List.cons_append, countL, countL, countL_append a b]
    omega
theorem okL_append : ∀ (a b : List Ex), okL (a ++ b) = (okL a && okL b)
  | [], b => by simp [okL]
  | x :: a, b => by rw [List.cons_append, okL, okL, okL_append a b, Bool.and_assoc]
theorem tabsL_append : ∀ (a b : List Ex), tabsL (a ++ b) = tabsL a ||| tabsL b
  | [], b => by simp [tabsL]
  | x :: a, b => by rw [List.cons_append, tabsL, tabsL, tabsL_append a b, Nat.or_assoc]
theorem safeL_append : ∀ (a b : List Ex), safeL (a ++ b) = (safeL a && safeL b)
  | [], b => by simp [safeL]
  | x :: a, b => by rw [List.cons_append, safeL, safeL, safeL_append a b, Bool.and_assoc]
theorem printL_append : ∀ (a b : List Ex), printL (a ++ b) = printL a ++ printL b
  | [], b => by simp [printL]
  | x :: a, b => by rw [List.cons_append, printL, printL, printL_append a b]; simp
theorem take_snoc {α : Type} {l : List α} {i : Nat} {x : α} (h : l[i]? = some x) : l.take (i + 1) = l.take i ++ [x] := by rw [List.take_add_one, h]; rfl
theorem deepL_step {l : List Ex} {i : Nat} {x : Ex} (h : l[i]? = some x) : deepL (l.take (i + 1)) = max (deepL (l.take i)) x.deep := by rw [take_snoc h, deepL_append]; simp [deepL]
theorem countL_step {l : List Ex} {i : Nat} {x : Ex} (h : l[i]? = some x) : countL (l.take (i + 1)) = countL (l.take i) + x.count := by rw [take_snoc h, countL_append]; simp [countL]
theorem okL_step {l : List Ex} {i : Nat} {x : Ex} (h : l[i]? = some x) : okL (l.take (i + 1)) = (okL (l.take i) && x.okAll) := by rw [take_snoc h, okL_append]; simp [okL]
theorem tabsL_step {l : List Ex} {i : Nat} {x : Ex} (h : l[i]? = some x) : tabsL (l.take (i + 1)) = tabsL (l.take i) ||| x.tabs := by rw [take_snoc h, tabsL_append]; simp [tabsL]
theorem safeL_step {l : List Ex} {i : Nat} {x : Ex} (h : l[i]? = some x) : safeL (l.take (i + 1)) = (safeL (l.take i) && x.safe) := by rw [take_snoc h, safeL_append]; simp [safeL]
theorem printL_step {l : List Ex} {i : Nat} {x : Ex} (h : l[i]? = some x) : printL (l.take (i + 1)) = printL (l.take i) ++ (32 :: x.print) := by rw [take_snoc h, printL_append]; simp [printL]
theorem deepL_mem : ∀ {l : List Ex} {i : Nat} {x : Ex}, l[i]? = some x → x.deep ≤ deepL l
  | y :: l, 0, x, h => by simp at h; subst h; rw [deepL]; omega
  | y :: l, i + 1, x, h => by
    have := deepL_mem (l := l) (i := i) (x := x) (by simpa using h)
    rw [deepL]
    omega
theorem countL_le (l : List Ex) (i : Nat) : countL (l.take i) ≤ countL l := by
  have h := countL_append (l.take i) (l.drop i)
  rw [List.take_append_drop] at h
  omega
theorem deepL_le (l : List Ex) (i : Nat) : deepL (l.take i) ≤ deepL l := by
  have h := deepL_append (l.take i) (l.drop i)
  rw [List.take_append_drop] at h
  omega
theorem okL_all : ∀ {l : List Ex}, okL l = true → ∀ {i : Nat} {x : Ex}, l[i]? = some x → x.okAll = true
  | y :: l, hl, 0, x, h => by simp at h; subst h; rw [okL, Bool.and_eq_true] at hl; exact hl.1
  | y :: l, hl, i + 1, x, h => by rw [okL, Bool.and_eq_true] at hl; exact okL_all hl.2 (i := i) (by simpa using h)
theorem okL_false : ∀ {l : List Ex} {i : Nat} {x : Ex}, l[i]? = some x → x.okAll = false → okL l = false
  | y :: l, 0, x, h, hx => by simp at h; subst h; rw [okL, hx]; rfl
  | y :: l, i + 1, x, h, hx => by rw [okL, okL_false (l := l) (i := i) (x := x) (by simpa using h) hx, Bool.and_false]
theorem count_pos (x : Ex) : 1 ≤ x.count := by cases x; rw [Ex.count]; omega
theorem deep_pos (x : Ex) : 1 ≤ x.deep := by cases x; rw [Ex.deep]; omega

end Go.Proofs.YtgmmbfcjjgehoaaGreatDoor
