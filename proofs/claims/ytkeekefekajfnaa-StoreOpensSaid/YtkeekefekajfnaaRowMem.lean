/- Values one behind the other in memory, at an address written out. -/
import Derived.Test.YtkeekefekajfnaaValD
namespace Go.Proofs.Ytkeekefekajfnaa
open Go.RowKit

/-- From cell off of block b on lie n values. -/
structure RowAt (W : World) (b off n : Nat) (x : Nat → Val) : Prop where
  lt : 0 < n → b < W.heap.size
  c0 : ∀ i, i < n → W.cell? ⟨b, off + i * 3, none⟩ = some (.int .i64 (x i).k)
  c1 : ∀ i, i < n → W.cell? ⟨b, off + i * 3 + 1, none⟩ = some (.int .i64 (x i).n)
  c2 : ∀ i, i < n → W.cell? ⟨b, off + i * 3 + 2, none⟩ = some (.string (x i).s)

theorem RowAt.ext {W W' : World} {b off n : Nat} {x : Nat → Val} (h : RowAt W b off n x) (hb : Below W.heap.size W W') : RowAt W' b off n x :=
  ⟨fun h0 => Nat.lt_of_lt_of_le (h.lt h0) hb.size, fun i hi => (hb.cell (p := ⟨b, _, none⟩) (h.lt (by omega))).trans (h.c0 i hi), fun i hi => (hb.cell (p := ⟨b, _, none⟩) (h.lt (by omega))).trans (h.c1 i hi),
    fun i hi => (hb.cell (p := ⟨b, _, none⟩) (h.lt (by omega))).trans (h.c2 i hi)⟩

theorem RowAt.drew {W : World} {b off n : Nat} {x : Nat → Val} (h : RowAt W b off n x) : RowAt W.drew b off n x := h.ext (Below.refl _ _).drew

/-- n values behind the address p (whatever p is where there is none). -/
def RowP (W : World) (p : Option Addr) (n : Nat) (x : Nat → Val) : Prop := n = 0 ∨ ∃ b off, p = some ⟨b, off, none⟩ ∧ RowAt W b off n x

theorem RowP.ext {W W' : World} {p : Option Addr} {n : Nat} {x : Nat → Val} (h : RowP W p n x) (hb : Below W.heap.size W W') : RowP W' p n x := by
  rcases h with h | ⟨b, off, h1, h2⟩
  · exact .inl h
  · exact .inr ⟨b, off, h1, h2.ext hb⟩
theorem RowP.one {W : World} {p : Option Addr} {n : Nat} {x : Nat → Val} (h : RowP W p n x) {k : Nat} (hk : k < n) : ∃ b off, p = some ⟨b, off, none⟩ ∧ RowAt W b off n x := by
  rcases h with h | h
  · omega
  · exact h

/-- Are the first n right? -/
def allRight : Nat → (Nat → Val) → Bool
  | 0, _ => true
  | n + 1, x => allRight n x && (x n).right
theorem allRight_no {n k : Nat} {x : Nat → Val} (hk : k < n) (h : (x k).right = false) : allRight n x = false := by
  induction n with
  | zero => omega
  | succ n ih =>
    unfold allRight
    by_cases e : k = n
    · subst e; rw [h, Bool.and_false]
    · rw [ih (by omega)]; rfl

/-- Which of two rows goes ahead, from place k on: f places are left to be compared. -/
def cmpFrom (la lb : Nat) (x y : Nat → Val) : Nat → Nat → Int
  | 0, _ => if la < lb then -1 else if lb < la then 1 else 0
  | f + 1, k => if (x k).cmp (y k) != 0 then (x k).cmp (y k) else cmpFrom la lb x y f (k + 1)
/-- Which of two rows goes ahead: -1, 0, 1. -/
def cmpRow (la lb : Nat) (x y : Nat → Val) : Int := cmpFrom la lb x y (min la lb) 0

end Go.Proofs.Ytkeekefekajfnaa
