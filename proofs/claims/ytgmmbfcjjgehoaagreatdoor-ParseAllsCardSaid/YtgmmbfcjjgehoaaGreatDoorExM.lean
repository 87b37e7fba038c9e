/- Expressions in memory. -/
import Derived.Test.YtgmmbfcjjgehoaaGreatDoorExP
import Derived.Test.YtgmmbfcjjgehoaaGreatDoorStD
namespace Go.Proofs.YtgmmbfcjjgehoaaGreatDoor
open Go.RowKit
set_option maxRecDepth 100000

/-- The cells of an operation whose operands lie behind q. -/
abbrev exCells (op : Int) (v : Val) (rel col n : Int) (s : ByteArray) (q : Option Addr) (len c : Nat) : List Value := [.int .i64 op, .int .i64 v.k, .int .i64 v.n, .string v.s, .int .i64 rel, .int .i64 col, .int .i64 n, .string s, .slice q len c]
def okVal (v : Val) : Prop := inR v.k = true ∧ inR v.n = true ∧ v.s.size ≤ maxLen
mutual
/-- The expression x, its own cells cs. -/
def ExM (w : World) : Ex → List Value → Prop
  | .mk op v rel col n s l, cs => okVal v ∧ ∃ q c, cs = exCells op v rel col n s q l.length c ∧ l.length ≤ c ∧ ExL w q 0 l
/-- Expressions behind q, from place i on. -/
def ExL (w : World) (q : Option Addr) : Nat → List Ex → Prop
  | _, [] => True
  | i, x :: r => (∃ g off cs, q = some ⟨g, off, none⟩ ∧ g < w.heap.size ∧ ExM w x cs ∧ ∀ (k : Nat) u, cs[k]? = some u → w.cell? ⟨g, off + i * 9 + k, none⟩ = some u) ∧ ExL w q (i + 1) r
end
theorem ExM.iff {w : World} {op : Int} {v : Val} {rel col n : Int} {s : ByteArray} {l : List Ex} {cs : List Value} : ExM w (.mk op v rel col n s l) cs ↔ okVal v ∧ ∃ q c, cs = exCells op v rel col n s q l.length c ∧ l.length ≤ c ∧ ExL w q 0 l := by rw [ExM]
theorem ExL.cons {w : World} {q : Option Addr} {i : Nat} {x : Ex} {r : List Ex} : ExL w q i (x :: r) ↔ (∃ g off cs, q = some ⟨g, off, none⟩ ∧ g < w.heap.size ∧ ExM w x cs ∧ ∀ (k : Nat) u, cs[k]? = some u → w.cell? ⟨g, off + i * 9 + k, none⟩ = some u) ∧ ExL w q (i + 1) r := by rw [ExL]

mutual
theorem ExM.ext {w w' : World} (hb : Below w.heap.size w w') : ∀ (x : Ex) (cs : List Value), ExM w x cs → ExM w' x cs
  | .mk op v rel col n s l, cs, h => by
    rw [ExM] at h ⊢
    obtain ⟨hv, q, c, e, hc, hl⟩ := h
    exact ⟨hv, q, c, e, hc, ExL.ext hb l q 0 hl⟩
theorem ExL.ext {w w' : World} (hb : Below w.heap.size w w') : ∀ (l : List Ex) (q : Option Addr) (i : Nat), ExL w q i l → ExL w' q i l
  | [], q, i, _ => by rw [ExL]; trivial
  | x :: r, q, i, h => by
    rw [ExL] at h ⊢
    obtain ⟨⟨g, off, cs, e, hg, hx, hcell⟩, hr⟩ := h
    exact ⟨⟨g, off, cs, e, Nat.lt_of_lt_of_le hg hb.size, ExM.ext hb x cs hx, fun k u hu => (hb.cell (p := ⟨g, _, none⟩) hg).trans (hcell k u hu)⟩, ExL.ext hb r q (i + 1) hr⟩
end
/-- The operand at a place. -/
theorem ExL.at_ {w : World} {q : Option Addr} : ∀ {l : List Ex} {i j : Nat} {x : Ex}, ExL w q i l → l[j]? = some x → ∃ g off cs, q = some ⟨g, off, none⟩ ∧ g < w.heap.size ∧ ExM w x cs ∧ ∀ (k : Nat) u, cs[k]? = some u → w.cell? ⟨g, off + (i + j) * 9 + k, none⟩ = some u
  | y :: l, i, 0, x, h, hx => by
    rw [ExL] at h
    simp at hx
    subst hx
    exact h.1
  | y :: l, i, j + 1, x, h, hx => by
    rw [ExL] at h
    have := ExL.at_ (l := l) (i := i + 1) (j := j) h.2 (by simpa using hx)
    rw [show i + (j + 1) = i + 1 + j by omega]
    exact this

end Go.Proofs.YtgmmbfcjjgehoaaGreatDoor
