/- Tables in memory: texts, values, columns, rows, tables behind an address, in blocks between two bounds. -/
import Derived.Test.YtkgdbpfpjpiejaaVal
import Derived.Test.YtkgdbpfpjpiejaaOut
namespace Go.Proofs.Ytkgdbpfpjpiejaa
open Go.RowKit

structure Col where
  nm : ByteArray
  kd : Int
structure Tab where
  nm : ByteArray
  cols : List Col
  rows : List (List Val)

/-- The cells of a list's elements stand behind the address q, in a block from lo on and below hi: of element x at place j the address of the first cell is off + j * sz, and P says what stands there. -/
def ArrA {α : Type} (lo hi : Nat) (q : Option Addr) (sz : Nat) (l : List α) (P : Nat → Nat → α → Prop) : Prop :=
  ∀ i, i < l.length → ∃ g off, q = some ⟨g, off, none⟩ ∧ lo ≤ g ∧ g < hi ∧ ∀ j x, l[j]? = some x → P g (off + j * sz) x
theorem ArrA.imp {α : Type} {lo hi : Nat} {q : Option Addr} {sz : Nat} {l : List α} {P P' : Nat → Nat → α → Prop} (h : ArrA lo hi q sz l P) (hp : ∀ g o x, lo ≤ g → g < hi → P g o x → P' g o x) : ArrA lo hi q sz l P' := fun i hi => by
  obtain ⟨g, off, h1, h2, h3, h4⟩ := h i hi
  exact ⟨g, off, h1, h2, h3, fun j x hx => hp _ _ _ h2 h3 (h4 j x hx)⟩
theorem ArrA.wide {α : Type} {lo hi lo' hi' : Nat} {q : Option Addr} {sz : Nat} {l : List α} {P : Nat → Nat → α → Prop} (h : ArrA lo hi q sz l P) (h1 : lo' ≤ lo) (h2 : hi ≤ hi') : ArrA lo' hi' q sz l P := fun i hi => by
  obtain ⟨g, off, a, b, c, d⟩ := h i hi
  exact ⟨g, off, a, by omega, by omega, d⟩
theorem ArrA.at_ {α : Type} {lo hi : Nat} {q : Option Addr} {sz : Nat} {l : List α} {P : Nat → Nat → α → Prop} (h : ArrA lo hi q sz l P) {i : Nat} (h0 : i < l.length) : ∃ g off, q = some ⟨g, off, none⟩ ∧ lo ≤ g ∧ g < hi ∧ P g (off + i * sz) l[i] := by
  obtain ⟨g, off, h1, h2, h3, h4⟩ := h i h0
  exact ⟨g, off, h1, h2, h3, h4 i _ (List.getElem?_eq_getElem h0)⟩

def strC (w : World) (g o : Nat) (s : ByteArray) : Prop := w.cell? ⟨g, o, none⟩ = some (.string s)
def valC (w : World) (g o : Nat) (x : Val) : Prop := w.cell? ⟨g, o, none⟩ = some (.int .i64 x.k) ∧ w.cell? ⟨g, o + 1, none⟩ = some (.int .i64 x.n) ∧ w.cell? ⟨g, o + 2, none⟩ = some (.string x.s)
def colC (w : World) (g o : Nat) (c : Col) : Prop := (w.cell? ⟨g, o, none⟩ = some (.string c.nm) ∧ w.cell? ⟨g, o + 1, none⟩ = some (.int .i64 c.kd)) ∧ c.nm.size ≤ 9223372036854775807
def StrsA (w : World) (lo hi : Nat) (q : Option Addr) (l : List ByteArray) : Prop := ArrA lo hi q 1 l (strC w)
def ValsA (w : World) (lo hi : Nat) (q : Option Addr) (l : List Val) : Prop := ArrA lo hi q 3 l (valC w)
def ColsA (w : World) (lo hi : Nat) (q : Option Addr) (l : List Col) : Prop := ArrA lo hi q 2 l (colC w)
def rowC (w : World) (lo hi : Nat) (g o : Nat) (l : List Val) : Prop := ∃ p c, w.cell? ⟨g, o, none⟩ = some (.slice p l.length c) ∧ l.length ≤ c ∧ c ≤ 9223372036854775807 ∧ ValsA w lo hi p l
def RowsA (w : World) (lo hi : Nat) (q : Option Addr) (l : List (List Val)) : Prop := ArrA lo hi q 1 l (rowC w lo hi)
def tabC (w : World) (lo hi : Nat) (g o : Nat) (t : Tab) : Prop :=
  (w.cell? ⟨g, o, none⟩ = some (.string t.nm) ∧ t.nm.size ≤ 9223372036854775807) ∧ (∃ p c, w.cell? ⟨g, o + 1, none⟩ = some (.slice p t.cols.length c) ∧ t.cols.length ≤ c ∧ c ≤ 9223372036854775807 ∧ ColsA w lo hi p t.cols) ∧
    ∃ p c, w.cell? ⟨g, o + 2, none⟩ = some (.slice p t.rows.length c) ∧ t.rows.length ≤ c ∧ c ≤ 9223372036854775807 ∧ RowsA w lo hi p t.rows
def TabsA (w : World) (lo hi : Nat) (q : Option Addr) (l : List Tab) : Prop := ArrA lo hi q 3 l (tabC w lo hi)

def intC (w : World) (g o : Nat) (x : Int) : Prop := w.cell? ⟨g, o, none⟩ = some (.int .i64 x)
def IntsA (w : World) (lo hi : Nat) (q : Option Addr) (l : List Int) : Prop := ArrA lo hi q 1 l (intC w)
def listC (w : World) (lo hi : Nat) (g o : Nat) (l : List Int) : Prop := ∃ p c, w.cell? ⟨g, o, none⟩ = some (.slice p l.length c) ∧ l.length ≤ c ∧ c ≤ 9223372036854775807 ∧ IntsA w lo hi p l
def ListsA (w : World) (lo hi : Nat) (q : Option Addr) (l : List (List Int)) : Prop := ArrA lo hi q 1 l (listC w lo hi)

/-- Between the two worlds no block from lo on and below hi has changed. -/
structure Same (lo hi : Nat) (w w' : World) : Prop where
  block : ∀ k, lo ≤ k → k < hi → w'.heap[k]? = w.heap[k]?
theorem Same.cell {lo hi : Nat} {w w' : World} (h : Same lo hi w w') {g o : Nat} (h1 : lo ≤ g) (h2 : g < hi) : w'.cell? ⟨g, o, none⟩ = w.cell? ⟨g, o, none⟩ := World.cell?_of_block (w := w) (h.block g h1 h2)
theorem Same.of {N lo hi : Nat} {w w' : World} (h : Below N w w') (hN : hi ≤ N) : Same lo hi w w' := ⟨fun k _ hk => h.block k (by omega)⟩
theorem Same.out {S : Nat → Prop} {lo hi : Nat} {w w' : World} (o : Out S w w') (hh : hi ≤ w.heap.size) (hS : ∀ k, S k → ¬ (lo ≤ k ∧ k < hi)) : Same lo hi w w' := ⟨fun k h1 h2 => o.block k (by omega) (fun hs => hS k hs ⟨h1, h2⟩)⟩
theorem StrsA.same {w w' : World} {lo hi : Nat} {q : Option Addr} {l : List ByteArray} (h : StrsA w lo hi q l) (s : Same lo hi w w') : StrsA w' lo hi q l := ArrA.imp h fun _ _ _ h1 h2 h => (s.cell h1 h2).trans h
theorem ValsA.same {w w' : World} {lo hi : Nat} {q : Option Addr} {l : List Val} (h : ValsA w lo hi q l) (s : Same lo hi w w') : ValsA w' lo hi q l := ArrA.imp h fun _ _ _ h1 h2 h => ⟨(s.cell h1 h2).trans h.1, (s.cell h1 h2).trans h.2.1, (s.cell h1 h2).trans h.2.2⟩
theorem ColsA.same {w w' : World} {lo hi : Nat} {q : Option Addr} {l : List Col} (h : ColsA w lo hi q l) (s : Same lo hi w w') : ColsA w' lo hi q l := ArrA.imp h fun _ _ _ h1 h2 h => ⟨⟨(s.cell h1 h2).trans h.1.1, (s.cell h1 h2).trans h.1.2⟩, h.2⟩
theorem RowsA.same {w w' : World} {lo hi : Nat} {q : Option Addr} {l : List (List Val)} (h : RowsA w lo hi q l) (s : Same lo hi w w') : RowsA w' lo hi q l := ArrA.imp h fun _ _ _ h1 h2 h => by
  obtain ⟨p, c, a, b, d, e⟩ := h
  exact ⟨p, c, (s.cell h1 h2).trans a, b, d, e.same s⟩
theorem TabsA.same {w w' : World} {lo hi : Nat} {q : Option Addr} {l : List Tab} (h : TabsA w lo hi q l) (s : Same lo hi w w') : TabsA w' lo hi q l := ArrA.imp h fun _ _ _ h1 h2 h => by
  obtain ⟨h0, ⟨p, c, a, b, d, e⟩, p', c', a', b', d', e'⟩ := h
  exact ⟨⟨(s.cell h1 h2).trans h0.1, h0.2⟩, ⟨p, c, (s.cell h1 h2).trans a, b, d, e.same s⟩, p', c', (s.cell h1 h2).trans a', b', d', e'.same s⟩

theorem IntsA.same {w w' : World} {lo hi : Nat} {q : Option Addr} {l : List Int} (h : IntsA w lo hi q l) (s : Same lo hi w w') : IntsA w' lo hi q l := ArrA.imp h fun _ _ _ h1 h2 h => (s.cell h1 h2).trans h
theorem ListsA.same {w w' : World} {lo hi : Nat} {q : Option Addr} {l : List (List Int)} (h : ListsA w lo hi q l) (s : Same lo hi w w') : ListsA w' lo hi q l := ArrA.imp h fun _ _ _ h1 h2 h => by
  obtain ⟨p, c, a, b, d, e⟩ := h
  exact ⟨p, c, (s.cell h1 h2).trans a, b, d, e.same s⟩

theorem ba_eq {s t : ByteArray} : s = t ↔ s.toList = t.toList := ⟨fun h => by rw [h], fun h => by
  rw [ByteArray.toList_eq, ByteArray.toList_eq] at h
  cases s; cases t
  simp only at h
  rw [Array.toList_inj.1 h]⟩

/-- What is answered is a truth: whether P. -/
def Tells (P : Prop) (e : Ending) : Prop := ∃ b, e = .returned (.bool b) ∧ (b = true ↔ P)
theorem Tells.yes {P : Prop} (h : P) : Tells P (.returned (.bool true)) := ⟨true, rfl, by simpa using h⟩
theorem Tells.no {P : Prop} (h : ¬ P) : Tells P (.returned (.bool false)) := ⟨false, rfl, by simpa using h⟩

end Go.Proofs.Ytkgdbpfpjpiejaa
