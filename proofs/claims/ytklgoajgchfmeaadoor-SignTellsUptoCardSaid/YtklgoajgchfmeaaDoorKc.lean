/- A part of the proof. -/
import Derived.Test.YtklgoajgchfmeaaDoorRows
import Derived.WalkKit
import Derived.WalkSpells
import Derived.WalkLawsBesides
import Derived.BigQuiet
import Derived.Deep.RegionHeld3
import Derived.Deep.DeepCutAuto
import Derived.Lib.Hide
import Derived.Lib.ItoaNum
import Derived.Laws.StructEq
set_option linter.unusedVariables false
set_option linter.unusedSimpArgs false
namespace Go.Proofs.YtklgoajgchfmeaaDoor
open Go.RowKit
structure Val where
  k : Int
  n : Int
  s : ByteArray
abbrev Val.v (x : Val) : Value := .agg #[.int .i64 x.k, .int .i64 x.n, .string x.s]
abbrev num (k : Int) : Val := ⟨1, k, ⟨#[]⟩⟩
abbrev nul : Val := ⟨0, 0, ⟨#[]⟩⟩
def Val.right (x : Val) : Bool :=
  if x.k = 0 then x.n == 0 && x.s.toList.isEmpty else if x.k = 1 then x.s.toList.isEmpty else if x.k = 2 then (x.n == 0 || x.n == 1) && x.s.toList.isEmpty
  else if x.k = 3 then x.n == 0 && decide (x.s.size ≤ 40) else false
def inR (z : Int) : Bool := decide (-9223372036854775808 ≤ z ∧ z ≤ 9223372036854775807)
@[simp, go_sem] theorem lt_s2 (n : Nat) : n < n + 1 + 1 := by omega
@[simp, go_sem] theorem lt_s3 (n : Nat) : n < n + 1 + 1 + 1 := by omega
@[simp, go_sem] theorem lt_s4 (n : Nat) : n < n + 1 + 1 + 1 + 1 := by omega
@[simp, go_sem] theorem lt_s5 (n : Nat) : n < n + 1 + 1 + 1 + 1 + 1 := by omega
@[simp, go_sem] theorem lt_s6 (n : Nat) : n < n + 1 + 1 + 1 + 1 + 1 + 1 := by omega
@[simp, go_sem] theorem lt_s7 (n : Nat) : n < n + 1 + 1 + 1 + 1 + 1 + 1 + 1 := by omega
@[simp, go_sem] theorem lt_s8 (n : Nat) : n < n + 1 + 1 + 1 + 1 + 1 + 1 + 1 + 1 := by omega
@[simp, go_sem] theorem ne_t2 (n : Nat) : (n + 1 + 1 = n) = False := by simp; omega
@[simp, go_sem] theorem ne_t3 (n : Nat) : (n + 1 + 1 + 1 = n) = False := by simp; omega
theorem ext_refl (W : World) : Below W.heap.size W W := Below.refl _ _
theorem ext_alloc {W w : World} (h : Below W.heap.size W w) (o : Obj) : Below W.heap.size W (w.alloc o) := h.alloc h.size o
theorem ext_drew {W w : World} (h : Below W.heap.size W w) : Below W.heap.size W w.drew := h.drew
theorem ext_drewN {W w : World} (h : Below W.heap.size W w) (n : Nat) : Below W.heap.size W (w.drewN n) := ⟨h.os, h.tape, h.output, h.size, h.block⟩
theorem ext_set {W w : World} {p : Addr} (hp : W.heap.size ≤ p.block) (u : Value) (h : Below W.heap.size W w) : Below W.heap.size W (w.setCell p u) := h.setCell hp u
theorem ext_trans {W a b : World} (h : Below W.heap.size W a) (k : Below a.heap.size a b) : Below W.heap.size W b := h.trans (k.mono h.size)
open Go.RowKit
set_option maxHeartbeats 400000 in
theorem right_any (x : Val) (w : World) :
    Calls Tryd.prog 63 #[x.v] w fun e w' => e = .returned (.bool x.right) ∧ Below w.heap.size w w' := by
  obtain ⟨k, n, s⟩ := x
  go_enter Tryd.func63, Tryd.ntmps63
  go_wp2
  all_goals go_ret
  all_goals refine ⟨?_, (Below.refl _ _).alloc (Nat.le_refl _) _⟩
  all_goals first | (simp_all [Val.right]; done) | (simp_all [Val.right]; omega)
set_option maxHeartbeats 400000 in
theorem rright_any (x : Val) (w : World) :
    Calls Tryd.prog 54 #[x.v] w fun e w' => e = .returned (.bool x.right) ∧ Below w.heap.size w w' := by
  obtain ⟨k, n, s⟩ := x
  go_enter Tryd.func54, Tryd.ntmps54
  go_wp2
  all_goals go_ret
  all_goals refine ⟨?_, (Below.refl _ _).alloc (Nat.le_refl _) _⟩
  all_goals first | (simp_all [Val.right]; done) | (simp_all [Val.right]; omega)
abbrev Bs := List UInt8
def isLetter (b : UInt8) : Bool := (decide (97 ≤ b) && decide (b ≤ 122)) || (decide (65 ≤ b) && decide (b ≤ 90))
def isDigit (b : UInt8) : Bool := decide (48 ≤ b) && decide (b ≤ 57)
def isWordB (b : UInt8) : Bool := isLetter b || isDigit b || b == 95
def lower (b : UInt8) : UInt8 := if 65 ≤ b ∧ b ≤ 90 then b + 32 else b
def numStep (n : Nat) (b : UInt8) : Nat := 10 * n + (b.toNat - 48)
def numOf (l : Bs) : Nat := l.foldl numStep 0
def lexWords : List Bs := [[115, 101, 108, 101, 99, 116], [100, 105, 115, 116, 105, 110, 99, 116], [102, 114, 111, 109], [106, 111, 105, 110], [108, 101, 102, 116], [115, 101, 109, 105], [111, 110], [119, 104, 101, 114, 101], [103, 114, 111, 117, 112], [98, 121], [117, 110, 105, 111, 110], [97, 108, 108], [111, 114, 100, 101, 114], [100, 101, 115, 99], [97, 110, 100], [111, 114], [110, 111, 116], [105, 115], [110, 117, 108, 108], [116, 114, 117, 101], [102, 97, 108, 115, 101], [99, 111, 117, 110, 116], [115, 117, 109], [109, 105, 110], [109, 97, 120]]
def singles : Bs := [60, 62, 61, 43, 45, 42, 47, 40, 41, 44, 46]
inductive One where
  | tok (kd n : Nat) (s : Bs) (used : Nat)
  | err (e rel : Nat)
def textOf : Bs → Option (Bs × Nat)
  | [] => none
  | [b] => if b = 39 then some ([], 1) else none
  | b :: c :: r => if b = 39 then (if c = 39 then (textOf r).map fun x => (39 :: x.1, x.2 + 2) else some ([], 1)) else (textOf (c :: r)).map fun x => (b :: x.1, x.2 + 1)
def signOf : Bs → Option Bs
  | [] => none
  | [b] => if b ∈ singles then some [b] else none
  | b :: c :: _ => if b = 60 ∧ c = 61 then some [60, 61] else if b = 62 ∧ c = 61 then some [62, 61] else if b = 60 ∧ c = 62 then some [60, 62] else if b ∈ singles then some [b] else none
def oneWord (l : Bs) : One := if 20 < (l.takeWhile isWordB).length then .err 5 0 else .tok (if (l.takeWhile isWordB).map lower ∈ lexWords then 1 else 2) 0 ((l.takeWhile isWordB).map lower) (l.takeWhile isWordB).length
def oneNum (l : Bs) : One := if 9223372036854775807 < numOf (l.takeWhile isDigit) then .err 5 0 else .tok 3 (numOf (l.takeWhile isDigit)) [] (l.takeWhile isDigit).length
def oneText (r : Bs) : One := match textOf r with | none => .err 6 (r.length + 1) | some (o, u) => if 40 < o.length then .err 5 0 else .tok 4 0 o (u + 1)
def onePar (r : Bs) : One := if r.takeWhile isDigit = [] then .err 6 0 else if numOf (r.takeWhile isDigit) < 1 ∨ 4 < numOf (r.takeWhile isDigit) then .err 5 0 else .tok 5 (numOf (r.takeWhile isDigit)) [] ((r.takeWhile isDigit).length + 1)
def oneSign (l : Bs) : One := match signOf l with | none => .err 6 0 | some s => .tok 6 0 s s.length
def one : Bs → One
  | [] => .err 6 0
  | b :: r => if isLetter b then oneWord (b :: r) else if isDigit b then oneNum (b :: r) else if b = 39 then oneText r else if b = 36 then onePar r else oneSign (b :: r)
inductive Ex where
  | mk (op : Int) (v : Val) (rel col n : Int) (s : ByteArray) (l : List Ex)
def wantsOf (op : Int) : Int := if op < 1 ∨ 18 < op then -1 else if op ≤ 3 then 0 else if op = 8 ∨ op = 17 ∨ op = 18 then 1 else 2
def zeroVal : Val := ⟨0, 0, ⟨#[]⟩⟩
def isZeroV (v : Val) : Bool := v.k == 0 && v.n == 0 && v.s.toList == ([] : List UInt8)
def headOk (op : Int) (v : Val) (rel col n : Int) (s : ByteArray) (len : Nat) : Bool :=
  (wantsOf op == (len : Int)) && (s.toList == ([] : List UInt8)) && v.right && (op == 1 || isZeroV v) &&
    (if op = 2 then decide (0 ≤ rel) && decide (rel ≤ 15) && decide (0 ≤ col) && decide (col ≤ 5) else rel == 0 && col == 0) &&
    (if op = 3 then decide (1 ≤ n) && decide (n ≤ 4) else n == 0)
mutual
def Ex.deep : Ex → Nat
  | .mk _ _ _ _ _ _ l => deepL l + 1
def deepL : List Ex → Nat
  | [] => 0
  | x :: r => max x.deep (deepL r)
end
mutual
def Ex.count : Ex → Nat
  | .mk _ _ _ _ _ _ l => countL l + 1
def countL : List Ex → Nat
  | [] => 0
  | x :: r => x.count + countL r
end
mutual
def Ex.okAll : Ex → Bool
  | .mk op v rel col n s l => headOk op v rel col n s l.length && okL l
def okL : List Ex → Bool
  | [] => true
  | x :: r => x.okAll && okL r
end
def sizesE (most : Nat) (x : Ex) : Option (Nat × Nat) := if x.okAll = true ∧ x.deep ≤ most ∧ x.count ≤ 200 then some (x.deep, x.count) else none
def rightE (x : Ex) : Bool := (sizesE 20 x).isSome
mutual
def sameE : Ex → Ex → Bool
  | .mk op v rel col n _ l, .mk op' v' rel' col' n' _ l' => op == op' && (v.k == v'.k && v.n == v'.n && v.s.toList == v'.s.toList) && rel == rel' && col == col' && n == n' && sameL l l'
def sameL : List Ex → List Ex → Bool
  | [], [] => true
  | x :: r, y :: t => sameE x y && sameL r t
  | _, _ => false
end
mutual
def Ex.print : Ex → Bs
  | .mk op v rel col n _ l =>
    if op = 1 then (if v.k = 0 then [78] else if v.k = 1 then 73 :: Lib.itoa v.n else if v.k = 2 then 66 :: Lib.itoa v.n else 84 :: Lib.itoa v.s.size ++ [58] ++ v.s.data.toList)
    else if op = 2 then 82 :: Lib.itoa rel ++ [46] ++ Lib.itoa col
    else if op = 3 then 80 :: Lib.itoa n
    else 40 :: Lib.itoa op ++ printL l ++ [41]
def printL : List Ex → Bs
  | [] => []
  | x :: r => 32 :: x.print ++ printL r
end
mutual
def Ex.tabs : Ex → Nat
  | .mk op _ rel _ _ _ l => (if op = 2 then 2 ^ rel.toNat else 0) ||| tabsL l
def tabsL : List Ex → Nat
  | [] => 0
  | x :: r => x.tabs ||| tabsL r
end
mutual
def Ex.safe : Ex → Bool
  | .mk op _ _ _ _ _ l => !(decide (4 ≤ op) && decide (op ≤ 8)) && safeL l
def safeL : List Ex → Bool
  | [] => true
  | x :: r => x.safe && safeL r
end
theorem deepL_append : ∀ (a b : List Ex), deepL (a ++ b) = max (deepL a) (deepL b)
  | [], b => by simp [deepL]
  | x :: a, b => by
    rw [List.cons_append, deepL, deepL, deepL_append a b]
    omega
theorem countL_append : ∀ (a b : List Ex), countL (a ++ b) = countL a + countL b
  | [], b => by simp [countL]
  | x :: a, b => by
    rw [List.cons_append, countL, countL, countL_append a b]
    omega
theorem okL_append : ∀ (a b : List Ex), okL (a ++ b) = (okL a && okL b)
  | [], b => by simp [okL]
  | x :: a, b => by rw [List.cons_append, okL, okL, okL_append a b, Bool.and_assoc]
theorem tabsL_append : ∀ (a b : List Ex), tabsL (a ++ b) = tabsL a ||| tabsL b
  | [], b => by simp [tabsL]
  | x :: a, b => by rw [List.cons_append, tabsL, tabsL, tabsL_append a b, Nat.or_assoc]
theorem safeL_append : ∀ (a b : List Ex), safeL (a ++ b) = (safeL a && safeL b)
  | [], b => by simp [safeL]
  | x :: a, b => by rw [List.cons_append, safeL, safeL, safeL_append a b, Bool.and_assoc]
theorem printL_append : ∀ (a b : List Ex), printL (a ++ b) = printL a ++ printL b
  | [], b => by simp [printL]
  | x :: a, b => by rw [List.cons_append, printL, printL, printL_append a b]; simp
theorem take_snoc {α : Type} {l : List α} {i : Nat} {x : α} (h : l[i]? = some x) : l.take (i + 1) = l.take i ++ [x] := by rw [List.take_add_one, h]; rfl
theorem countL_step {l : List Ex} {i : Nat} {x : Ex} (h : l[i]? = some x) : countL (l.take (i + 1)) = countL (l.take i) + x.count := by rw [take_snoc h, countL_append]; simp [countL]
theorem printL_step {l : List Ex} {i : Nat} {x : Ex} (h : l[i]? = some x) : printL (l.take (i + 1)) = printL (l.take i) ++ (32 :: x.print) := by rw [take_snoc h, printL_append]; simp [printL]
theorem deepL_mem : ∀ {l : List Ex} {i : Nat} {x : Ex}, l[i]? = some x → x.deep ≤ deepL l
  | y :: l, 0, x, h => by simp at h; subst h; rw [deepL]; omega
  | y :: l, i + 1, x, h => by
    have := deepL_mem (l := l) (i := i) (x := x) (by simpa using h)
    rw [deepL]
    omega
theorem countL_le (l : List Ex) (i : Nat) : countL (l.take i) ≤ countL l := by
  have h := countL_append (l.take i) (l.drop i)
  rw [List.take_append_drop] at h
  omega
theorem okL_all : ∀ {l : List Ex}, okL l = true → ∀ {i : Nat} {x : Ex}, l[i]? = some x → x.okAll = true
  | y :: l, hl, 0, x, h => by simp at h; subst h; rw [okL, Bool.and_eq_true] at hl; exact hl.1
  | y :: l, hl, i + 1, x, h => by rw [okL, Bool.and_eq_true] at hl; exact okL_all hl.2 (i := i) (by simpa using h)
theorem count_pos (x : Ex) : 1 ≤ x.count := by cases x; rw [Ex.count]; omega
theorem deep_pos (x : Ex) : 1 ≤ x.deep := by cases x; rw [Ex.deep]; omega
open Go.RowKit
structure Out (S : Nat → Prop) (w w' : World) : Prop where
  os : w'.os = w.os
  tape : w'.tape = w.tape
  output : w'.output = w.output
  size : w.heap.size ≤ w'.heap.size
  block : ∀ k, k < w.heap.size → ¬ S k → w'.heap[k]? = w.heap[k]?
theorem Out.refl (S : Nat → Prop) (w : World) : Out S w w := ⟨rfl, rfl, rfl, Nat.le_refl _, fun _ _ _ => rfl⟩
theorem Out.trans {S : Nat → Prop} {a b c : World} (h : Out S a b) (k : Out S b c) : Out S a c :=
  ⟨k.os.trans h.os, k.tape.trans h.tape, k.output.trans h.output, Nat.le_trans h.size k.size, fun i hi hn => (k.block i (Nat.lt_of_lt_of_le hi h.size) hn).trans (h.block i hi hn)⟩
theorem Out.of {S : Nat → Prop} {a b : World} (h : Below a.heap.size a b) : Out S a b := ⟨h.os, h.tape, h.output, h.size, fun i hi _ => h.block i hi⟩
theorem Out.grown {S : Nat → Prop} {a b : World} {r : Option Nat} (h : a.grownBy b r) (hr : ∀ k, r = some k → S k) : Out S a b := ⟨h.os, h.tape, h.output, h.size, fun i hi hn => h.block i hi fun e => hn (hr i e.symm)⟩
theorem Out.below {S : Nat → Prop} {a b : World} {N : Nat} (h : Out S a b) (hN : N ≤ a.heap.size) (hS : ∀ k, S k → N ≤ k) : Below N a b :=
  ⟨h.os, h.tape, h.output, h.size, fun i hi => h.block i (Nat.lt_of_lt_of_le hi hN) fun k => by have := hS i k; omega⟩
theorem Out.set {S : Nat → Prop} {a : World} (p : Addr) (v : Value) (h : S p.block) : Out S a (a.setCell p v) :=
  ⟨rfl, rfl, rfl, by simp [World.setCell], fun i _ hn => Below.heap_setCell _ _ _ _ fun e => hn (e ▸ h)⟩
theorem Out.drew {S : Nat → Prop} (a : World) : Out S a a.drew := Out.of (Below.refl _ _).drew
open Go.RowKit
structure Col where
  nm : ByteArray
  kd : Int
structure Tab where
  nm : ByteArray
  cols : List Col
  rows : List (List Val)
def ArrA {α : Type} (lo hi : Nat) (q : Option Addr) (sz : Nat) (l : List α) (P : Nat → Nat → α → Prop) : Prop :=
  ∀ i, i < l.length → ∃ g off, q = some ⟨g, off, none⟩ ∧ lo ≤ g ∧ g < hi ∧ ∀ j x, l[j]? = some x → P g (off + j * sz) x
theorem ArrA.imp {α : Type} {lo hi : Nat} {q : Option Addr} {sz : Nat} {l : List α} {P P' : Nat → Nat → α → Prop} (h : ArrA lo hi q sz l P) (hp : ∀ g o x, lo ≤ g → g < hi → P g o x → P' g o x) : ArrA lo hi q sz l P' := fun i hi => by
  obtain ⟨g, off, h1, h2, h3, h4⟩ := h i hi
  exact ⟨g, off, h1, h2, h3, fun j x hx => hp _ _ _ h2 h3 (h4 j x hx)⟩
theorem ArrA.wide {α : Type} {lo hi lo' hi' : Nat} {q : Option Addr} {sz : Nat} {l : List α} {P : Nat → Nat → α → Prop} (h : ArrA lo hi q sz l P) (h1 : lo' ≤ lo) (h2 : hi ≤ hi') : ArrA lo' hi' q sz l P := fun i hi => by
  obtain ⟨g, off, a, b, c, d⟩ := h i hi
  exact ⟨g, off, a, by omega, by omega, d⟩
def strC (w : World) (g o : Nat) (s : ByteArray) : Prop := w.cell? ⟨g, o, none⟩ = some (.string s)
def StrsA (w : World) (lo hi : Nat) (q : Option Addr) (l : List ByteArray) : Prop := ArrA lo hi q 1 l (strC w)
def intC (w : World) (g o : Nat) (x : Int) : Prop := w.cell? ⟨g, o, none⟩ = some (.int .i64 x)
def IntsA (w : World) (lo hi : Nat) (q : Option Addr) (l : List Int) : Prop := ArrA lo hi q 1 l (intC w)
theorem ba_eq {s t : ByteArray} : s = t ↔ s.toList = t.toList := ⟨fun h => by rw [h], fun h => by
  rw [ByteArray.toList_eq, ByteArray.toList_eq] at h
  cases s; cases t
  simp only at h
  rw [Array.toList_inj.1 h]⟩
open Go.RowKit
set_option maxRecDepth 100000
abbrev exCells (op : Int) (v : Val) (rel col n : Int) (s : ByteArray) (q : Option Addr) (len c : Nat) : List Value := [.int .i64 op, .int .i64 v.k, .int .i64 v.n, .string v.s, .int .i64 rel, .int .i64 col, .int .i64 n, .string s, .slice q len c]
def okVal (v : Val) : Prop := inR v.k = true ∧ inR v.n = true ∧ v.s.size ≤ maxLen
mutual
def ExM (w : World) : Ex → List Value → Prop
  | .mk op v rel col n s l, cs => okVal v ∧ ∃ q c, cs = exCells op v rel col n s q l.length c ∧ l.length ≤ c ∧ ExL w q 0 l
def ExL (w : World) (q : Option Addr) : Nat → List Ex → Prop
  | _, [] => True
  | i, x :: r => (∃ g off cs, q = some ⟨g, off, none⟩ ∧ g < w.heap.size ∧ ExM w x cs ∧ ∀ (k : Nat) u, cs[k]? = some u → w.cell? ⟨g, off + i * 9 + k, none⟩ = some u) ∧ ExL w q (i + 1) r
end
theorem ExM.iff {w : World} {op : Int} {v : Val} {rel col n : Int} {s : ByteArray} {l : List Ex} {cs : List Value} : ExM w (.mk op v rel col n s l) cs ↔ okVal v ∧ ∃ q c, cs = exCells op v rel col n s q l.length c ∧ l.length ≤ c ∧ ExL w q 0 l := by rw [ExM]
mutual
theorem ExM.ext {w w' : World} (hb : Below w.heap.size w w') : ∀ (x : Ex) (cs : List Value), ExM w x cs → ExM w' x cs
  | .mk op v rel col n s l, cs, h => by
    rw [ExM] at h ⊢
    obtain ⟨hv, q, c, e, hc, hl⟩ := h
    exact ⟨hv, q, c, e, hc, ExL.ext hb l q 0 hl⟩
theorem ExL.ext {w w' : World} (hb : Below w.heap.size w w') : ∀ (l : List Ex) (q : Option Addr) (i : Nat), ExL w q i l → ExL w' q i l
  | [], q, i, _ => by rw [ExL]; trivial
  | x :: r, q, i, h => by
    rw [ExL] at h ⊢
    obtain ⟨⟨g, off, cs, e, hg, hx, hcell⟩, hr⟩ := h
    exact ⟨⟨g, off, cs, e, Nat.lt_of_lt_of_le hg hb.size, ExM.ext hb x cs hx, fun k u hu => (hb.cell (p := ⟨g, _, none⟩) hg).trans (hcell k u hu)⟩, ExL.ext hb r q (i + 1) hr⟩
end
theorem ExL.at_ {w : World} {q : Option Addr} : ∀ {l : List Ex} {i j : Nat} {x : Ex}, ExL w q i l → l[j]? = some x → ∃ g off cs, q = some ⟨g, off, none⟩ ∧ g < w.heap.size ∧ ExM w x cs ∧ ∀ (k : Nat) u, cs[k]? = some u → w.cell? ⟨g, off + (i + j) * 9 + k, none⟩ = some u
  | y :: l, i, 0, x, h, hx => by
    rw [ExL] at h
    simp at hx
    subst hx
    exact h.1
  | y :: l, i, j + 1, x, h, hx => by
    rw [ExL] at h
    have := ExL.at_ (l := l) (i := i + 1) (j := j) h.2 (by simpa using hx)
    rw [show i + (j + 1) = i + 1 + j by omega]
    exact this
open Go.RowKit
set_option maxRecDepth 100000
theorem Tryd.eqlVal (a b : Val) (w : World) : (binOp .eql 23 (.agg #[.int .i64 a.k, .int .i64 a.n, .string a.s]) (.agg #[.int .i64 b.k, .int .i64 b.n, .string b.s])).run Tryd.prog w = .ok (.bool (a.k == b.k && a.n == b.n && a.s.toList == b.s.toList)) w := by
  have hS : Tryd.prog.underlying 23 = some (.struct (Tryd.prog.fieldsOf 23)) := by kernel_rfl
  have hp : Tryd.prog.stoodInHeld 23 = false := by kernel_rfl
  rw [run_eql_struct, show (10000 : Nat) = 9999 + 1 from rfl, run_equalIn_agg w 9999 23 _ _ hS hp]
  simp only [Program.fieldsOf, Tryd.underlying23]
  go_simp
  by_cases h1 : a.k = b.k <;> by_cases h2 : a.n = b.n <;> by_cases h3 : a.s.toList = b.s.toList <;> simp [h1, h2, h3]
theorem Tryd.neqVal5 (a b : Val) (w : World) : (binOp .neq 23 (.agg #[.int .i64 a.k, .int .i64 a.n, .string a.s]) (.agg #[.int .i64 b.k, .int .i64 b.n, .string b.s])).run Tryd.prog w = .ok (.bool (!(a.k == b.k && a.n == b.n && a.s.toList == b.s.toList))) w := by
  have hS : Tryd.prog.underlying 23 = some (.struct (Tryd.prog.fieldsOf 23)) := by kernel_rfl
  have hp : Tryd.prog.stoodInHeld 23 = false := by kernel_rfl
  rw [run_neq_struct, show (10000 : Nat) = 9999 + 1 from rfl, run_equalIn_agg w 9999 23 _ _ hS hp]
  simp only [Program.fieldsOf, Tryd.underlying23]
  go_simp
  by_cases h1 : a.k = b.k <;> by_cases h2 : a.n = b.n <;> by_cases h3 : a.s.toList = b.s.toList <;> simp [h1, h2, h3]
end Go.Proofs.YtklgoajgchfmeaaDoor
