/- A part of the proof. -/
import Derived.Test.YtklgoajgchfmeaaGreatDoorRows
import Derived.WalkKit
import Derived.WalkSpells
import Derived.WalkLawsBesides
import Derived.BigQuiet
import Derived.Deep.RegionHeld3
import Derived.Deep.DeepCutAuto
import Derived.Lib.Hide
import Derived.Lib.ItoaNum
import Derived.Laws.StructEq
import Derived.Handy
import Derived.Lib.LaidU8
import Derived.Lib.SmallJoins
import Derived.Lib.LaidTab
import Derived.OpenShut
set_option linter.unusedVariables false
set_option linter.unusedSimpArgs false
namespace Go.Proofs.YtklgoajgchfmeaaGreatDoor
open Go.RowKit
structure Val where
  k : Int
  n : Int
  s : ByteArray
abbrev Val.v (x : Val) : Value := .agg #[.int .i64 x.k, .int .i64 x.n, .string x.s]
abbrev num (k : Int) : Val := ⟨1, k, ⟨#[]⟩⟩
abbrev tru (k : Int) : Val := ⟨2, k, ⟨#[]⟩⟩
abbrev nul : Val := ⟨0, 0, ⟨#[]⟩⟩
def bit (b : Bool) : Int := if b then 1 else 0
def Val.right (x : Val) : Bool :=
  if x.k = 0 then x.n == 0 && x.s.toList.isEmpty else if x.k = 1 then x.s.toList.isEmpty else if x.k = 2 then (x.n == 0 || x.n == 1) && x.s.toList.isEmpty
  else if x.k = 3 then x.n == 0 && decide (x.s.size ≤ 40) else false
def Val.nullOr (kd : Int) (x : Val) : Bool := x.right && (x.k == 0 || x.k == kd)
def inR (z : Int) : Bool := decide (-9223372036854775808 ≤ z ∧ z ≤ 9223372036854775807)
@[simp, go_sem] theorem lt_s2 (n : Nat) : n < n + 1 + 1 := by omega
@[simp, go_sem] theorem lt_s3 (n : Nat) : n < n + 1 + 1 + 1 := by omega
@[simp, go_sem] theorem lt_s4 (n : Nat) : n < n + 1 + 1 + 1 + 1 := by omega
@[simp, go_sem] theorem lt_s5 (n : Nat) : n < n + 1 + 1 + 1 + 1 + 1 := by omega
@[simp, go_sem] theorem lt_s6 (n : Nat) : n < n + 1 + 1 + 1 + 1 + 1 + 1 := by omega
@[simp, go_sem] theorem lt_s7 (n : Nat) : n < n + 1 + 1 + 1 + 1 + 1 + 1 + 1 := by omega
@[simp, go_sem] theorem lt_s8 (n : Nat) : n < n + 1 + 1 + 1 + 1 + 1 + 1 + 1 + 1 := by omega
@[simp, go_sem] theorem ne_t2 (n : Nat) : (n + 1 + 1 = n) = False := by simp; omega
@[simp, go_sem] theorem ne_t3 (n : Nat) : (n + 1 + 1 + 1 = n) = False := by simp; omega
theorem kept {W w1 : World} (hb : Below W.heap.size W w1) : (∀ b o, b < W.heap.size → w1.cell? ⟨b, o, none⟩ = W.cell? ⟨b, o, none⟩) ∧ (∀ n, n < W.heap.size → n < w1.heap.size) ∧ ∀ b o, b < W.heap.size → w1.frozen? ⟨b, o, none⟩ = W.frozen? ⟨b, o, none⟩ :=
  ⟨fun b o h => hb.cell (p := ⟨b, o, none⟩) h, fun _ h => Nat.lt_of_lt_of_le h hb.size, fun b o h => hb.frozen (p := ⟨b, o, none⟩) h⟩
theorem ext_refl (W : World) : Below W.heap.size W W := Below.refl _ _
theorem ext_alloc {W w : World} (h : Below W.heap.size W w) (o : Obj) : Below W.heap.size W (w.alloc o) := h.alloc h.size o
theorem ext_drew {W w : World} (h : Below W.heap.size W w) : Below W.heap.size W w.drew := h.drew
theorem ext_drewN {W w : World} (h : Below W.heap.size W w) (n : Nat) : Below W.heap.size W (w.drewN n) := ⟨h.os, h.tape, h.output, h.size, h.block⟩
theorem ext_set {W w : World} {p : Addr} (hp : W.heap.size ≤ p.block) (u : Value) (h : Below W.heap.size W w) : Below W.heap.size W (w.setCell p u) := h.setCell hp u
theorem ext_trans {W a b : World} (h : Below W.heap.size W a) (k : Below a.heap.size a b) : Below W.heap.size W b := h.trans (k.mono h.size)
open Go.RowKit
set_option maxHeartbeats 400000 in
theorem right_any (x : Val) (w : World) :
    Calls Tryz.prog 57 #[x.v] w fun e w' => e = .returned (.bool x.right) ∧ Below w.heap.size w w' := by
  obtain ⟨k, n, s⟩ := x
  go_enter Tryz.func57, Tryz.ntmps57
  go_wp2
  all_goals go_ret
  all_goals refine ⟨?_, (Below.refl _ _).alloc (Nat.le_refl _) _⟩
  all_goals first | (simp_all [Val.right]; done) | (simp_all [Val.right]; omega)
set_option maxHeartbeats 400000 in
theorem isNull_any (x : Val) (w : World) :
    Calls Tryz.prog 56 #[x.v] w fun e w' => e = .returned (.bool (x.k == 0)) ∧ Below w.heap.size w w' := by
  obtain ⟨k, n, s⟩ := x
  go_enter Tryz.func56, Tryz.ntmps56
  go_wp2
  go_ret
  exact ⟨rfl, (Below.refl _ _).alloc (Nat.le_refl _) _⟩
set_option maxHeartbeats 400000 in
theorem number_any (k : Int) (w : World) :
    Calls Tryz.prog 52 #[.int .i64 k] w fun e w' => e = .returned (num k).v ∧ Below w.heap.size w w' := by
  go_enter Tryz.func52, Tryz.ntmps52
  go_wp2
  (refine bodyPost_ret (v := (num k).v) (by simp [results, Tryz.results52, go_sem]) rfl ⟨rfl, ?_⟩)
  (repeat (first | exact ext_refl _ | assumption | (refine ext_alloc ?_ _) | (refine ext_drewN ?_ _) | refine ext_drew ?_ | (refine ext_set (by first | (simp; done) | (simp; omega)) _ ?_) | (refine ext_trans ?_ (by assumption))))
set_option maxHeartbeats 400000 in
theorem truth_any (k : Int) (w : World) :
    Calls Tryz.prog 54 #[.int .i64 k] w fun e w' => e = .returned (tru k).v ∧ Below w.heap.size w w' := by
  go_enter Tryz.func54, Tryz.ntmps54
  go_wp2
  (refine bodyPost_ret (v := (tru k).v) (by simp [results, Tryz.results54, go_sem]) rfl ⟨rfl, ?_⟩)
  (repeat (first | exact ext_refl _ | assumption | (refine ext_alloc ?_ _) | (refine ext_drewN ?_ _) | refine ext_drew ?_ | (refine ext_set (by first | (simp; done) | (simp; omega)) _ ?_) | (refine ext_trans ?_ (by assumption))))
set_option maxHeartbeats 400000 in
theorem nullOr_any (kd : Int) (x : Val) (w : World) :
    Calls Tryz.prog 55 #[.int .i64 kd, x.v] w fun e w' => e = .returned (.bool (x.nullOr kd)) ∧ Below w.heap.size w w' := by
  obtain ⟨k, n, s⟩ := x
  cases hr : Val.right ⟨k, n, s⟩
  all_goals have Hr := Lib.hid hr
  all_goals clear hr
  all_goals cases hk : k == 0
  all_goals go_enter Tryz.func55, Tryz.ntmps55
  all_goals go_wp2_with (first | (go_at_call 57; go_must (refine (right_any ⟨_, _, _⟩ _).mono ?_; rintro e w1 ⟨rfl, hb⟩; obtain ⟨hc, hz, hf⟩ := kept hb; rw [Hr.out])) | (go_at_call 56; go_must (refine (isNull_any ⟨_, _, _⟩ _).mono ?_; rintro e w1 ⟨rfl, hb⟩; obtain ⟨hc, hz, hf⟩ := kept hb; dsimp only; rw [hk])))
  all_goals go_ret
  all_goals (refine ⟨by simp [Val.nullOr, Hr.out, hk], ?_⟩; (repeat (first | exact ext_refl _ | assumption | (refine ext_alloc ?_ _) | (refine ext_drewN ?_ _) | refine ext_drew ?_ | (refine ext_set (by first | (simp; done) | (simp; omega)) _ ?_) | (refine ext_trans ?_ (by assumption)))))
abbrev Bs := List UInt8
inductive Ex where
  | mk (op : Int) (v : Val) (rel col n : Int) (s : ByteArray) (l : List Ex)
def wantsOf (op : Int) : Int := if op < 1 ∨ 18 < op then -1 else if op ≤ 3 then 0 else if op = 8 ∨ op = 17 ∨ op = 18 then 1 else 2
def zeroVal : Val := ⟨0, 0, ⟨#[]⟩⟩
def isZeroV (v : Val) : Bool := v.k == 0 && v.n == 0 && v.s.toList == ([] : List UInt8)
def headOk (op : Int) (v : Val) (rel col n : Int) (s : ByteArray) (len : Nat) : Bool :=
  (wantsOf op == (len : Int)) && (s.toList == ([] : List UInt8)) && v.right && (op == 1 || isZeroV v) &&
    (if op = 2 then decide (0 ≤ rel) && decide (rel ≤ 15) && decide (0 ≤ col) && decide (col ≤ 5) else rel == 0 && col == 0) &&
    (if op = 3 then decide (1 ≤ n) && decide (n ≤ 4) else n == 0)
mutual
def Ex.deep : Ex → Nat
  | .mk _ _ _ _ _ _ l => deepL l + 1
def deepL : List Ex → Nat
  | [] => 0
  | x :: r => max x.deep (deepL r)
end
mutual
def Ex.count : Ex → Nat
  | .mk _ _ _ _ _ _ l => countL l + 1
def countL : List Ex → Nat
  | [] => 0
  | x :: r => x.count + countL r
end
mutual
def Ex.okAll : Ex → Bool
  | .mk op v rel col n s l => headOk op v rel col n s l.length && okL l
def okL : List Ex → Bool
  | [] => true
  | x :: r => x.okAll && okL r
end
def sizesE (most : Nat) (x : Ex) : Option (Nat × Nat) := if x.okAll = true ∧ x.deep ≤ most ∧ x.count ≤ 200 then some (x.deep, x.count) else none
def rightE (x : Ex) : Bool := (sizesE 20 x).isSome
mutual
def sameE : Ex → Ex → Bool
  | .mk op v rel col n _ l, .mk op' v' rel' col' n' _ l' => op == op' && (v.k == v'.k && v.n == v'.n && v.s.toList == v'.s.toList) && rel == rel' && col == col' && n == n' && sameL l l'
def sameL : List Ex → List Ex → Bool
  | [], [] => true
  | x :: r, y :: t => sameE x y && sameL r t
  | _, _ => false
end
mutual
def Ex.print : Ex → Bs
  | .mk op v rel col n _ l =>
    if op = 1 then (if v.k = 0 then [78] else if v.k = 1 then 73 :: Lib.itoa v.n else if v.k = 2 then 66 :: Lib.itoa v.n else 84 :: Lib.itoa v.s.size ++ [58] ++ v.s.data.toList)
    else if op = 2 then 82 :: Lib.itoa rel ++ [46] ++ Lib.itoa col
    else if op = 3 then 80 :: Lib.itoa n
    else 40 :: Lib.itoa op ++ printL l ++ [41]
def printL : List Ex → Bs
  | [] => []
  | x :: r => 32 :: x.print ++ printL r
end
mutual
def Ex.tabs : Ex → Nat
  | .mk op _ rel _ _ _ l => (if op = 2 then 2 ^ rel.toNat else 0) ||| tabsL l
def tabsL : List Ex → Nat
  | [] => 0
  | x :: r => x.tabs ||| tabsL r
end
mutual
def Ex.safe : Ex → Bool
  | .mk op _ _ _ _ _ l => !(decide (4 ≤ op) && decide (op ≤ 8)) && safeL l
def safeL : List Ex → Bool
  | [] => true
  | x :: r => x.safe && safeL r
end
theorem deepL_append : ∀ (a b : List Ex), deepL (a ++ b) = max (deepL a) (deepL b)
  | [], b => by simp [deepL]
  | x :: a, b => by
    rw [List.cons_append, deepL, deepL, deepL_append a b]
    omega
theorem countL_append : ∀ (a b : List Ex), countL (a ++ b) = countL a + countL b
  | [], b => by simp [countL]
  | x :: a, b => by
    rw [List.cons_append, countL, countL, countL_append a b]
    omega
theorem okL_append : ∀ (a b : List Ex), okL (a ++ b) = (okL a && okL b)
  | [], b => by simp [okL]
  | x :: a, b => by rw [List.cons_append, okL, okL, okL_append a b, Bool.and_assoc]
theorem tabsL_append : ∀ (a b : List Ex), tabsL (a ++ b) = tabsL a ||| tabsL b
  | [], b => by simp [tabsL]
  | x :: a, b => by rw [List.cons_append, tabsL, tabsL, tabsL_append a b, Nat.or_assoc]
theorem safeL_append : ∀ (a b : List Ex), safeL (a ++ b) = (safeL a && safeL b)
  | [], b => by simp [safeL]
  | x :: a, b => by rw [List.cons_append, safeL, safeL, safeL_append a b, Bool.and_assoc]
theorem take_snoc {α : Type} {l : List α} {i : Nat} {x : α} (h : l[i]? = some x) : l.take (i + 1) = l.take i ++ [x] := by rw [List.take_add_one, h]; rfl
theorem countL_step {l : List Ex} {i : Nat} {x : Ex} (h : l[i]? = some x) : countL (l.take (i + 1)) = countL (l.take i) + x.count := by rw [take_snoc h, countL_append]; simp [countL]
theorem deepL_mem : ∀ {l : List Ex} {i : Nat} {x : Ex}, l[i]? = some x → x.deep ≤ deepL l
  | y :: l, 0, x, h => by simp at h; subst h; rw [deepL]; omega
  | y :: l, i + 1, x, h => by
    have := deepL_mem (l := l) (i := i) (x := x) (by simpa using h)
    rw [deepL]
    omega
theorem countL_le (l : List Ex) (i : Nat) : countL (l.take i) ≤ countL l := by
  have h := countL_append (l.take i) (l.drop i)
  rw [List.take_append_drop] at h
  omega
theorem okL_all : ∀ {l : List Ex}, okL l = true → ∀ {i : Nat} {x : Ex}, l[i]? = some x → x.okAll = true
  | y :: l, hl, 0, x, h => by simp at h; subst h; rw [okL, Bool.and_eq_true] at hl; exact hl.1
  | y :: l, hl, i + 1, x, h => by rw [okL, Bool.and_eq_true] at hl; exact okL_all hl.2 (i := i) (by simpa using h)
theorem count_pos (x : Ex) : 1 ≤ x.count := by cases x; rw [Ex.count]; omega
theorem deep_pos (x : Ex) : 1 ≤ x.deep := by cases x; rw [Ex.deep]; omega
open Go.RowKit
structure Out (S : Nat → Prop) (w w' : World) : Prop where
  os : w'.os = w.os
  tape : w'.tape = w.tape
  output : w'.output = w.output
  size : w.heap.size ≤ w'.heap.size
  block : ∀ k, k < w.heap.size → ¬ S k → w'.heap[k]? = w.heap[k]?
theorem Out.refl (S : Nat → Prop) (w : World) : Out S w w := ⟨rfl, rfl, rfl, Nat.le_refl _, fun _ _ _ => rfl⟩
theorem Out.trans {S : Nat → Prop} {a b c : World} (h : Out S a b) (k : Out S b c) : Out S a c :=
  ⟨k.os.trans h.os, k.tape.trans h.tape, k.output.trans h.output, Nat.le_trans h.size k.size, fun i hi hn => (k.block i (Nat.lt_of_lt_of_le hi h.size) hn).trans (h.block i hi hn)⟩
theorem Out.of {S : Nat → Prop} {a b : World} (h : Below a.heap.size a b) : Out S a b := ⟨h.os, h.tape, h.output, h.size, fun i hi _ => h.block i hi⟩
theorem Out.grown {S : Nat → Prop} {a b : World} {r : Option Nat} (h : a.grownBy b r) (hr : ∀ k, r = some k → S k) : Out S a b := ⟨h.os, h.tape, h.output, h.size, fun i hi hn => h.block i hi fun e => hn (hr i e.symm)⟩
theorem Out.below {S : Nat → Prop} {a b : World} {N : Nat} (h : Out S a b) (hN : N ≤ a.heap.size) (hS : ∀ k, S k → N ≤ k) : Below N a b :=
  ⟨h.os, h.tape, h.output, h.size, fun i hi => h.block i (Nat.lt_of_lt_of_le hi hN) fun k => by have := hS i k; omega⟩
theorem Out.set {S : Nat → Prop} {a : World} (p : Addr) (v : Value) (h : S p.block) : Out S a (a.setCell p v) :=
  ⟨rfl, rfl, rfl, by simp [World.setCell], fun i _ hn => Below.heap_setCell _ _ _ _ fun e => hn (e ▸ h)⟩
theorem Out.drew {S : Nat → Prop} (a : World) : Out S a a.drew := Out.of (Below.refl _ _).drew
open Go.RowKit
structure Col where
  nm : ByteArray
  kd : Int
structure Tab where
  nm : ByteArray
  cols : List Col
  rows : List (List Val)
def ArrA {α : Type} (lo hi : Nat) (q : Option Addr) (sz : Nat) (l : List α) (P : Nat → Nat → α → Prop) : Prop :=
  ∀ i, i < l.length → ∃ g off, q = some ⟨g, off, none⟩ ∧ lo ≤ g ∧ g < hi ∧ ∀ j x, l[j]? = some x → P g (off + j * sz) x
theorem ArrA.imp {α : Type} {lo hi : Nat} {q : Option Addr} {sz : Nat} {l : List α} {P P' : Nat → Nat → α → Prop} (h : ArrA lo hi q sz l P) (hp : ∀ g o x, lo ≤ g → g < hi → P g o x → P' g o x) : ArrA lo hi q sz l P' := fun i hi => by
  obtain ⟨g, off, h1, h2, h3, h4⟩ := h i hi
  exact ⟨g, off, h1, h2, h3, fun j x hx => hp _ _ _ h2 h3 (h4 j x hx)⟩
theorem ArrA.wide {α : Type} {lo hi lo' hi' : Nat} {q : Option Addr} {sz : Nat} {l : List α} {P : Nat → Nat → α → Prop} (h : ArrA lo hi q sz l P) (h1 : lo' ≤ lo) (h2 : hi ≤ hi') : ArrA lo' hi' q sz l P := fun i hi => by
  obtain ⟨g, off, a, b, c, d⟩ := h i hi
  exact ⟨g, off, a, by omega, by omega, d⟩
theorem ArrA.at_ {α : Type} {lo hi : Nat} {q : Option Addr} {sz : Nat} {l : List α} {P : Nat → Nat → α → Prop} (h : ArrA lo hi q sz l P) {i : Nat} (h0 : i < l.length) : ∃ g off, q = some ⟨g, off, none⟩ ∧ lo ≤ g ∧ g < hi ∧ P g (off + i * sz) l[i] := by
  obtain ⟨g, off, h1, h2, h3, h4⟩ := h i h0
  exact ⟨g, off, h1, h2, h3, h4 i _ (List.getElem?_eq_getElem h0)⟩
def strC (w : World) (g o : Nat) (s : ByteArray) : Prop := w.cell? ⟨g, o, none⟩ = some (.string s)
def valC (w : World) (g o : Nat) (x : Val) : Prop := w.cell? ⟨g, o, none⟩ = some (.int .i64 x.k) ∧ w.cell? ⟨g, o + 1, none⟩ = some (.int .i64 x.n) ∧ w.cell? ⟨g, o + 2, none⟩ = some (.string x.s)
def StrsA (w : World) (lo hi : Nat) (q : Option Addr) (l : List ByteArray) : Prop := ArrA lo hi q 1 l (strC w)
def ValsA (w : World) (lo hi : Nat) (q : Option Addr) (l : List Val) : Prop := ArrA lo hi q 3 l (valC w)
def rowC (w : World) (lo hi : Nat) (g o : Nat) (l : List Val) : Prop := ∃ p c, w.cell? ⟨g, o, none⟩ = some (.slice p l.length c) ∧ l.length ≤ c ∧ c ≤ 9223372036854775807 ∧ ValsA w lo hi p l
def RowsA (w : World) (lo hi : Nat) (q : Option Addr) (l : List (List Val)) : Prop := ArrA lo hi q 1 l (rowC w lo hi)
def intC (w : World) (g o : Nat) (x : Int) : Prop := w.cell? ⟨g, o, none⟩ = some (.int .i64 x)
def IntsA (w : World) (lo hi : Nat) (q : Option Addr) (l : List Int) : Prop := ArrA lo hi q 1 l (intC w)
structure Same (lo hi : Nat) (w w' : World) : Prop where
  block : ∀ k, lo ≤ k → k < hi → w'.heap[k]? = w.heap[k]?
theorem Same.cell {lo hi : Nat} {w w' : World} (h : Same lo hi w w') {g o : Nat} (h1 : lo ≤ g) (h2 : g < hi) : w'.cell? ⟨g, o, none⟩ = w.cell? ⟨g, o, none⟩ := World.cell?_of_block (w := w) (h.block g h1 h2)
theorem Same.of {N lo hi : Nat} {w w' : World} (h : Below N w w') (hN : hi ≤ N) : Same lo hi w w' := ⟨fun k _ hk => h.block k (by omega)⟩
theorem ValsA.same {w w' : World} {lo hi : Nat} {q : Option Addr} {l : List Val} (h : ValsA w lo hi q l) (s : Same lo hi w w') : ValsA w' lo hi q l := ArrA.imp h fun _ _ _ h1 h2 h => ⟨(s.cell h1 h2).trans h.1, (s.cell h1 h2).trans h.2.1, (s.cell h1 h2).trans h.2.2⟩
theorem RowsA.same {w w' : World} {lo hi : Nat} {q : Option Addr} {l : List (List Val)} (h : RowsA w lo hi q l) (s : Same lo hi w w') : RowsA w' lo hi q l := ArrA.imp h fun _ _ _ h1 h2 h => by
  obtain ⟨p, c, a, b, d, e⟩ := h
  exact ⟨p, c, (s.cell h1 h2).trans a, b, d, e.same s⟩
theorem ba_eq {s t : ByteArray} : s = t ↔ s.toList = t.toList := ⟨fun h => by rw [h], fun h => by
  rw [ByteArray.toList_eq, ByteArray.toList_eq] at h
  cases s; cases t
  simp only at h
  rw [Array.toList_inj.1 h]⟩
open Go.RowKit
set_option maxRecDepth 100000
abbrev exCells (op : Int) (v : Val) (rel col n : Int) (s : ByteArray) (q : Option Addr) (len c : Nat) : List Value := [.int .i64 op, .int .i64 v.k, .int .i64 v.n, .string v.s, .int .i64 rel, .int .i64 col, .int .i64 n, .string s, .slice q len c]
def okVal (v : Val) : Prop := inR v.k = true ∧ inR v.n = true ∧ v.s.size ≤ maxLen
mutual
def ExM (w : World) : Ex → List Value → Prop
  | .mk op v rel col n s l, cs => okVal v ∧ ∃ q c, cs = exCells op v rel col n s q l.length c ∧ l.length ≤ c ∧ ExL w q 0 l
def ExL (w : World) (q : Option Addr) : Nat → List Ex → Prop
  | _, [] => True
  | i, x :: r => (∃ g off cs, q = some ⟨g, off, none⟩ ∧ g < w.heap.size ∧ ExM w x cs ∧ ∀ (k : Nat) u, cs[k]? = some u → w.cell? ⟨g, off + i * 9 + k, none⟩ = some u) ∧ ExL w q (i + 1) r
end
theorem ExM.iff {w : World} {op : Int} {v : Val} {rel col n : Int} {s : ByteArray} {l : List Ex} {cs : List Value} : ExM w (.mk op v rel col n s l) cs ↔ okVal v ∧ ∃ q c, cs = exCells op v rel col n s q l.length c ∧ l.length ≤ c ∧ ExL w q 0 l := by rw [ExM]
mutual
theorem ExM.ext {w w' : World} (hb : Below w.heap.size w w') : ∀ (x : Ex) (cs : List Value), ExM w x cs → ExM w' x cs
  | .mk op v rel col n s l, cs, h => by
    rw [ExM] at h ⊢
    obtain ⟨hv, q, c, e, hc, hl⟩ := h
    exact ⟨hv, q, c, e, hc, ExL.ext hb l q 0 hl⟩
theorem ExL.ext {w w' : World} (hb : Below w.heap.size w w') : ∀ (l : List Ex) (q : Option Addr) (i : Nat), ExL w q i l → ExL w' q i l
  | [], q, i, _ => by rw [ExL]; trivial
  | x :: r, q, i, h => by
    rw [ExL] at h ⊢
    obtain ⟨⟨g, off, cs, e, hg, hx, hcell⟩, hr⟩ := h
    exact ⟨⟨g, off, cs, e, Nat.lt_of_lt_of_le hg hb.size, ExM.ext hb x cs hx, fun k u hu => (hb.cell (p := ⟨g, _, none⟩) hg).trans (hcell k u hu)⟩, ExL.ext hb r q (i + 1) hr⟩
end
theorem ExL.at_ {w : World} {q : Option Addr} : ∀ {l : List Ex} {i j : Nat} {x : Ex}, ExL w q i l → l[j]? = some x → ∃ g off cs, q = some ⟨g, off, none⟩ ∧ g < w.heap.size ∧ ExM w x cs ∧ ∀ (k : Nat) u, cs[k]? = some u → w.cell? ⟨g, off + (i + j) * 9 + k, none⟩ = some u
  | y :: l, i, 0, x, h, hx => by
    rw [ExL] at h
    simp at hx
    subst hx
    exact h.1
  | y :: l, i, j + 1, x, h, hx => by
    rw [ExL] at h
    have := ExL.at_ (l := l) (i := i + 1) (j := j) h.2 (by simpa using hx)
    rw [show i + (j + 1) = i + 1 + j by omega]
    exact this
open Go.RowKit
set_option maxRecDepth 100000
theorem Tryz.eqlVal (a b : Val) (w : World) : (binOp .eql 23 (.agg #[.int .i64 a.k, .int .i64 a.n, .string a.s]) (.agg #[.int .i64 b.k, .int .i64 b.n, .string b.s])).run Tryz.prog w = .ok (.bool (a.k == b.k && a.n == b.n && a.s.toList == b.s.toList)) w := by
  have hS : Tryz.prog.underlying 23 = some (.struct (Tryz.prog.fieldsOf 23)) := by kernel_rfl
  have hp : Tryz.prog.stoodInHeld 23 = false := by kernel_rfl
  rw [run_eql_struct, show (10000 : Nat) = 9999 + 1 from rfl, run_equalIn_agg w 9999 23 _ _ hS hp]
  simp only [Program.fieldsOf, Tryz.underlying23]
  go_simp
  by_cases h1 : a.k = b.k <;> by_cases h2 : a.n = b.n <;> by_cases h3 : a.s.toList = b.s.toList <;> simp [h1, h2, h3]
open Go.RowKit
set_option maxRecDepth 100000
structure EB (W : World) (g : Nat) (op : Int) (v : Val) (rel col n : Int) (s : ByteArray) (q : Option Addr) (len c : Nat) : Prop where
  lt : g < W.heap.size
  c0 : W.cell? ⟨g, 0, none⟩ = some (.int .i64 op)
  c1 : W.cell? ⟨g, 1, none⟩ = some (.int .i64 v.k)
  c2 : W.cell? ⟨g, 2, none⟩ = some (.int .i64 v.n)
  c3 : W.cell? ⟨g, 3, none⟩ = some (.string v.s)
  c4 : W.cell? ⟨g, 4, none⟩ = some (.int .i64 rel)
  c5 : W.cell? ⟨g, 5, none⟩ = some (.int .i64 col)
  c6 : W.cell? ⟨g, 6, none⟩ = some (.int .i64 n)
  c7 : W.cell? ⟨g, 7, none⟩ = some (.string s)
  c8 : W.cell? ⟨g, 8, none⟩ = some (.slice q len c)
theorem EB.on {W W' : World} {g : Nat} {op : Int} {v : Val} {rel col n : Int} {s : ByteArray} {q : Option Addr} {len c : Nat} (h : EB W g op v rel col n s q len c) (hb : Below W.heap.size W W') : EB W' g op v rel col n s q len c :=
  ⟨Nat.lt_of_lt_of_le h.lt hb.size, (hb.cell (p := ⟨_, _, none⟩) h.lt).trans h.c0, (hb.cell (p := ⟨_, _, none⟩) h.lt).trans h.c1, (hb.cell (p := ⟨_, _, none⟩) h.lt).trans h.c2, (hb.cell (p := ⟨_, _, none⟩) h.lt).trans h.c3, (hb.cell (p := ⟨_, _, none⟩) h.lt).trans h.c4,
    (hb.cell (p := ⟨_, _, none⟩) h.lt).trans h.c5, (hb.cell (p := ⟨_, _, none⟩) h.lt).trans h.c6, (hb.cell (p := ⟨_, _, none⟩) h.lt).trans h.c7, (hb.cell (p := ⟨_, _, none⟩) h.lt).trans h.c8⟩
theorem EB.new (w : World) (op : Int) (v : Val) (rel col n : Int) (s : ByteArray) (q : Option Addr) (len c : Nat) (T : TypeId) : EB (w.alloc (.cells (exCells op v rel col n s q len c).toArray T)) w.heap.size op v rel col n s q len c :=
  ⟨by simp, by simp [go_sem], by simp [go_sem], by simp [go_sem], by simp [go_sem], by simp [go_sem], by simp [go_sem], by simp [go_sem], by simp [go_sem], by simp [go_sem]⟩
open Go.RowKit
set_option maxRecDepth 100000
theorem head_parts {op : Int} {v : Val} {rel col n : Int} {s : ByteArray} {len : Nat} (h : headOk op v rel col n s len = true) :
    wantsOf op = (len : Int) ∧ s.toList = [] ∧ v.right = true ∧ (op = 1 ∧ rel = 0 ∧ col = 0 ∧ n = 0 ∨ isZeroV v = true ∧ (op = 2 ∧ 0 ≤ rel ∧ rel ≤ 15 ∧ 0 ≤ col ∧ col ≤ 5 ∧ n = 0 ∨ op = 3 ∧ rel = 0 ∧ col = 0 ∧ 1 ≤ n ∧ n ≤ 4 ∨ op ≠ 1 ∧ op ≠ 2 ∧ op ≠ 3 ∧ rel = 0 ∧ col = 0 ∧ n = 0)) := by
  unfold headOk at h
  simp only [Bool.and_eq_true, beq_iff_eq, Bool.or_eq_true] at h
  obtain ⟨⟨⟨⟨⟨h1, h2⟩, h3⟩, h4⟩, h5⟩, h6⟩ := h
  refine ⟨h1, h2, h3, ?_⟩
  by_cases o1 : op = 1
  · subst o1
    simp at h5 h6
    exact .inl ⟨rfl, h5.1, h5.2, h6⟩
  · right
    refine ⟨h4.resolve_left o1, ?_⟩
    by_cases o2 : op = 2
    · subst o2
      simp at h5 h6
      exact .inl ⟨rfl, h5.1.1.1, h5.1.1.2, h5.1.2, h5.2, h6⟩
    · rw [if_neg o2] at h5
      simp at h5
      by_cases o3 : op = 3
      · subst o3
        simp at h6
        exact .inr (.inl ⟨rfl, h5.1, h5.2, h6.1, h6.2⟩)
      · rw [if_neg o3] at h6
        simp at h6
        exact .inr (.inr ⟨o1, o2, o3, h5.1, h5.2, h6⟩)
open Go.RowKit
set_option maxRecDepth 100000
theorem head_two {op : Int} {v : Val} {rel col n : Int} {s : ByteArray} {len : Nat} (h : headOk op v rel col n s len = true) : len ≤ 2 := by
  have h1 := (head_parts h).1
  unfold wantsOf at h1
  split at h1
  · omega
  · split at h1
    · omega
    · split at h1 <;> omega
open Go.RowKit
set_option maxRecDepth 100000
theorem rightE_parts {x : Ex} (h : rightE x = true) : x.okAll = true ∧ x.deep ≤ 20 ∧ x.count ≤ 200 := by
  unfold rightE sizesE at h
  split at h
  · assumption
  · cases h
open Go.RowKit Go.ChangeShapes
set_option maxRecDepth 100000
def needT : List (List Int) := [[0,0,0,0,0,0,0],[0,0,0,0,0,0,0],[0,0,0,15,5,0,0],[0,0,0,0,0,1,4],[2,1,1,0,0,0,0],[2,1,1,0,0,0,0],[2,1,1,0,0,0,0],[2,1,1,0,0,0,0],[1,1,1,0,0,0,0],[2,-2,2,0,0,0,0],[2,-2,2,0,0,0,0],[2,-2,2,0,0,0,0],[2,-2,2,0,0,0,0],[2,-2,2,0,0,0,0],[2,-2,2,0,0,0,0],[2,2,2,0,0,0,0],[2,2,2,0,0,0,0],[1,2,2,0,0,0,0],[1,-1,2,0,0,0,0]]
structure GE (w : World) : Prop where
  size : 3 ≤ w.heap.size
  nd : ∀ (i j : Nat) (r : List Int) (z : Int), needT[i]? = some r → r[j]? = some z → w.cell? ⟨0, i * 7 + j, none⟩ = some (.int .i64 z)
  pow : Lib.TabIs Tryz.prog w "internal/strconv.uint64pow10" .u64 Lib.pow10Tab
theorem Tryz.gNd : Tryz.prog.globalNamed "weathercock/expr.needs" = some 0 := by kernel_rfl
theorem Tryz.gPw : Tryz.prog.globalNamed "internal/strconv.uint64pow10" = some 1 := by kernel_rfl
theorem Tryz.tNd : (Tryz.prog.globals[0]?).map (·.type) = some 82 := by kernel_rfl
theorem Tryz.tPw : (Tryz.prog.globals[1]?).map (·.type) = some 119 := by kernel_rfl
theorem GE.below {w w' : World} {n : Nat} (h : GE w) (hb : Below n w w') (hn : 3 ≤ n) : GE w' where
  size := Nat.le_trans h.size hb.size
  nd i j r z hi hj := (hb.cell (p := ⟨0, i * 7 + j, none⟩) (by show 0 < n; omega)).trans (h.nd i j r z hi hj)
  pow := by
    have h1 := h.pow
    unfold Lib.TabIs at h1 ⊢
    rw [← h1]
    unfold World.var?
    simp only [Tryz.gPw, Option.bind_some]
    have h2 := hb.block 1 (by show 1 < n; omega)
    first | rw [h2] | simp only [h2]
theorem GE.on {w w' : World} (h : GE w) (hb : Below w.heap.size w w') : GE w' := h.below hb h.size
theorem GE.alloc {w : World} (h : GE w) (o : Obj) : GE (w.alloc o) := h.on (ext_alloc (ext_refl _) _)
theorem GE.set {w : World} (h : GE w) {a : Addr} (ha : 3 ≤ a.block) (v : Value) : GE (w.setCell a v) := h.below ((Below.refl 3 w).setCell ha v) (Nat.le_refl _)
theorem list7 {α : Type} : ∀ {l : List α}, l.length = 7 → ∃ a b c d e f g, l = [a, b, c, d, e, f, g]
  | [a, b, c, d, e, f, g], _ => ⟨a, b, c, d, e, f, g, rfl⟩
theorem cells_need {w : World} {base : Nat} {sp : Nat → Bool} {held : Bool} {fuel : Nat} {cs : List Value} {r : List Int} {p : List MemPlace} {d : DataW Unit}
    (h : DataW.trod (fun _ => ()) Tryz.prog w base sp held fuel 81 cs = some (d, p)) (hd : d = .agg (r.map fun z => .lit (.int .i64 z))) (j : Nat) (z : Int) (hj : r[j]? = some z) : cs[j]? = some (.int .i64 z) := by
  obtain ⟨xs, n', _, ex, hl, hlen, hf⟩ := DataW.trod_struct Tryz.underlying81 h
  have cN : Tryz.prog.cellsOf 81 = 7 := by kernel_rfl
  have c1 : Tryz.prog.cellsOf 3 = 1 := by kernel_rfl
  rw [cN] at hl
  have e3 : xs.map (·.1) = r.map fun z => (.lit (.int .i64 z) : DataW Unit) := by
    have h0 := (Prod.mk.inj ex).1
    rw [hd] at h0
    exact (DataW.agg.inj h0).symm
  obtain ⟨y0, y1, y2, y3, y4, y5, y6, rfl⟩ := list7 (show xs.length = 7 from hlen)
  obtain ⟨v0, v1, v2, v3, v4, v5, v6, rfl⟩ := list7 hl
  · skip
    have h0 := hf 0 _ rfl
    have h1 := hf 1 _ rfl
    have h2 := hf 2 _ rfl
    have h3 := hf 3 _ rfl
    have h4 := hf 4 _ rfl
    have h5 := hf 5 _ rfl
    have h6 := hf 6 _ rfl
    clear hf h
    simp only [List.getElem?_cons_zero, List.getElem?_cons_succ] at h0 h1 h2 h3 h4 h5 h6
    obtain ⟨a0, e0, f0, _⟩ := DataW.trod_int Tryz.underlying3 h0
    obtain ⟨a1, e1, f1, _⟩ := DataW.trod_int Tryz.underlying3 h1
    obtain ⟨a2, e2, f2, _⟩ := DataW.trod_int Tryz.underlying3 h2
    obtain ⟨a3, e4, f3, _⟩ := DataW.trod_int Tryz.underlying3 h3
    obtain ⟨a4, e5, f4, _⟩ := DataW.trod_int Tryz.underlying3 h4
    obtain ⟨a5, e6, f5, _⟩ := DataW.trod_int Tryz.underlying3 h5
    obtain ⟨a6, e7, f6, _⟩ := DataW.trod_int Tryz.underlying3 h6
    simp [c1] at e0 e1 e2 e4 e5 e6 e7
    subst e0 e1 e2 e4 e5 e6 e7
    have e8 : (r.map fun z => (.lit (.int .i64 z) : DataW Unit))[j]? = some (.lit (.int .i64 z)) := by rw [List.getElem?_map, hj]; rfl
    rw [← e3] at e8
    simp only [List.map_cons, List.map_nil, f0, f1, f2, f3, f4, f5, f6] at e8
    match j, e8 with
    | 0, e8 => simpa using e8
    | 1, e8 => simpa using e8
    | 2, e8 => simpa using e8
    | 3, e8 => simpa using e8
    | 4, e8 => simpa using e8
    | 5, e8 => simpa using e8
    | 6, e8 => simpa using e8
theorem cells_needs {w : World} {base : Nat} {sp : Nat → Bool} {held : Bool} {fuel : Nat} {cs : List Value} {zs : List (List Int)} {p : List MemPlace}
    (h : DataW.trod (fun _ => ()) Tryz.prog w base sp held fuel 82 cs = some (.agg (zs.map fun r => .agg (r.map fun z => .lit (.int .i64 z))), p)) (i j : Nat) (r : List Int) (z : Int) (hi : zs[i]? = some r) (hj : r[j]? = some z) (hj7 : j < 7) : cs[i * 7 + j]? = some (.int .i64 z) := by
  obtain ⟨xs, m, _, ex, _, hl, hel⟩ := DataW.trod_array Tryz.underlying82 h
  have c1 : Tryz.prog.cellsOf 81 = 7 := by kernel_rfl
  have e3 : xs.map (·.1) = zs.map fun r => (.agg (r.map fun z => .lit (.int .i64 z)) : DataW Unit) := (DataW.agg.inj (Prod.mk.inj ex).1).symm
  have e4 : (xs.map (·.1))[i]? = some (.agg (r.map fun z => .lit (.int .i64 z))) := by rw [e3, List.getElem?_map, hi]; rfl
  rw [List.getElem?_map] at e4
  obtain ⟨x, hx, hx1⟩ := Option.map_eq_some_iff.1 e4
  have hlt : i < xs.length := (List.getElem?_eq_some_iff.1 hx).1
  have hE := hel i (by omega)
  rw [hx] at hE
  have h0 := cells_need (d := x.1) (p := x.2) hE hx1 j z hj
  rw [c1] at h0
  rw [List.getElem?_take, if_pos hj7, List.getElem?_drop] at h0
  exact h0
theorem GE.of_reads {W : World} (h0 : 3 ≤ W.heap.size) (h1 : Lib.VarReads Tryz.prog W "weathercock/expr.needs" Rows.laid_weathercock_expr_needs) (h2 : Lib.VarReads Tryz.prog W "internal/strconv.uint64pow10" Rows.laid_internal_strconv_uint64pow10) : GE W where
  size := h0
  nd i j r z hi hj := by
    obtain ⟨g, t, cs, fuel, p, hg, ht, hv, hd⟩ := h1
    obtain rfl := Option.some.inj (Tryz.gNd.symm.trans hg)
    obtain rfl := Option.some.inj (Tryz.tNd.symm.trans ht)
    rw [World.var?_cell hg hv (i * 7 + j)]
    have e : (Rows.laid_weathercock_expr_needs : DataW Unit) = .agg (needT.map fun r => .agg (r.map fun z => .lit (.int .i64 z))) := rfl
    rw [e] at hd
    have h7 : j < 7 := by
      have h8 : r.length = 7 := by
        have : ∀ r ∈ needT, r.length = 7 := by decide
        exact this r (List.mem_of_getElem? hi)
      rw [← h8]
      exact (List.getElem?_eq_some_iff.1 hj).1
    simpa using cells_needs hd i j r z hi hj h7
  pow := by
    obtain ⟨g, t, cs, fuel, p, hg, ht, hv, hd⟩ := h2
    obtain rfl := Option.some.inj (Tryz.gPw.symm.trans hg)
    obtain rfl := Option.some.inj (Tryz.tPw.symm.trans ht)
    have e : (Rows.laid_internal_strconv_uint64pow10 : DataW Unit) = Lib.tabData .u64 Lib.pow10Tab := by kernel_rfl
    rw [e] at hd
    have hcs := Lib.cells_of_tab Tryz.underlying119 Tryz.underlying92 (by kernel_rfl) (by kernel_rfl) hd
    unfold Lib.TabIs
    rw [hv, ← hcs]
end Go.Proofs.YtklgoajgchfmeaaGreatDoor
