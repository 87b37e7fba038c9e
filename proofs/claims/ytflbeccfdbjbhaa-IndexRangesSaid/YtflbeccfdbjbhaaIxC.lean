/- What the index's own functions answer, put down as one sentence a function (to be shown of the code). -/
import Derived.Test.YtflbeccfdbjbhaaIxP
import Derived.Test.YtflbeccfdbjbhaaStD
namespace Go.Proofs.Ytflbeccfdbjbhaa
open Go.RowKit
set_option maxRecDepth 100000

/-- The values in a column, or none where a row has no such column. -/
def colP (rows : List (List Val)) (col : Int) : Option (List Val) := if 0 ≤ col ∧ ∀ r ∈ rows, col < (r.length : Int) then some (rows.map fun r => (r[col.toNat]?).getD nul) else none
/-- How many different values there are but NULL. -/
def distP (l : List Val) : Nat := ((List.range l.length).filter fun i => decide ((valAt l i).k ≠ 0 ∧ ∀ j, j < i → (valAt l j).cmp (valAt l i) ≠ 0)).length
/-- A slice of numbers of the call's own. -/
structure OwnInts (w : World) (base : Nat) (q : Option Addr) (c : Nat) (r : List Int) : Prop where
  le : r.length ≤ c
  le2 : c ≤ 9223372036854775807
  arr : IntsA w base w.heap.size q r
  free : 0 < r.length → ∀ g off, q = some ⟨g, off, none⟩ → ∀ o, w.frozen? ⟨g, o, none⟩ = false
abbrev toInts (l : List Nat) : List Int := l.map fun (i : Nat) => (i : Int)

/-- What the index's functions answer, for what is held of an index at p with the blocks S: the values l. -/
structure IndexC (IxP : World → (Nat → Prop) → Nat → List Val → Prop) : Prop where
  keep : ∀ {w w' : World} {S T : Nat → Prop} {p : Nat} {l : List Val}, IxP w S p l → Out T w w' → (∀ k, T k → ¬ S k) → IxP w' S p l
  low : ∀ {w : World} {S : Nat → Prop} {p : Nat} {l : List Val}, IxP w S p l → ∀ k, S k → k < w.heap.size
  build : ∀ (rows : List (List Val)) (col : Int) (q : Option Addr) (c bl bh : Nat) (w : World), rows.length ≤ c → c ≤ 9223372036854775807 → rows.length ≤ 1000 → RowsA w bl bh q rows → bh ≤ w.heap.size → inR col = true →
    Calls Try.prog 6 #[.slice q rows.length c, .int .i64 col] w fun e w' => Below w.heap.size w w' ∧
      ((∃ l, colP rows col = some l ∧ ∃ p S, e = .returned (.tuple #[.pointer (some ⟨p, 0, none⟩), .int .i64 0]) ∧ IxP w' S p l ∧ ∀ k, S k → w.heap.size ≤ k) ∨ (colP rows col = none ∧ e = .returned (.tuple #[.pointer none, .int .i64 1])))
  eq : ∀ (w : World) (S : Nat → Prop) (p : Nat) (l : List Val) (v : Val), IxP w S p l →
    Calls Try.prog 8 #[.pointer (some ⟨p, 0, none⟩), v.v] w fun e w' => (∃ q c, e = .returned (.slice q (eqP l v).length c) ∧ OwnInts w' w.heap.size q c (toInts (eqP l v))) ∧ Below w.heap.size w w'
  hash : ∀ (w : World) (S : Nat → Prop) (p : Nat) (l : List Val) (v : Val), IxP w S p l →
    Calls Try.prog 9 #[.pointer (some ⟨p, 0, none⟩), v.v] w fun e w' => (∃ q c, e = .returned (.slice q (eqP l v).length c) ∧ OwnInts w' w.heap.size q c (toInts (eqP l v))) ∧ Below w.heap.size w w'
  range : ∀ (w : World) (S : Nat → Prop) (p : Nat) (l lo hi : List Val) (q1 q2 : Option Addr) (c1 c2 b1 b2 b3 b4 : Nat), IxP w S p l → lo.length ≤ c1 → c1 ≤ 9223372036854775807 → hi.length ≤ c2 → c2 ≤ 9223372036854775807 → ValsA w b1 b2 q1 lo → ValsA w b3 b4 q2 hi → b2 ≤ w.heap.size → b4 ≤ w.heap.size →
    Calls Try.prog 12 #[.pointer (some ⟨p, 0, none⟩), .slice q1 lo.length c1, .slice q2 hi.length c2] w fun e w' => (∃ q c, e = .returned (.slice q (rangeP l lo.head? hi.head?).length c) ∧ OwnInts w' w.heap.size q c (toInts (rangeP l lo.head? hi.head?))) ∧ Below w.heap.size w w'
  all : ∀ (w : World) (S : Nat → Prop) (p : Nat) (l : List Val), IxP w S p l →
    Calls Try.prog 10 #[.pointer (some ⟨p, 0, none⟩)] w fun e w' => (∃ q c, e = .returned (.slice q (allP l).length c) ∧ OwnInts w' w.heap.size q c (toInts (allP l))) ∧ Below w.heap.size w w'
  distinct : ∀ (w : World) (S : Nat → Prop) (p : Nat) (l : List Val), IxP w S p l →
    Calls Try.prog 13 #[.pointer (some ⟨p, 0, none⟩)] w fun e w' => e = .returned (.int .i64 (distP l : Int)) ∧ Below w.heap.size w w'

end Go.Proofs.Ytflbeccfdbjbhaa
