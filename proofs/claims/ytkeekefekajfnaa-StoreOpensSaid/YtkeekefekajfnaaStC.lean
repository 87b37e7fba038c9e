/- What the store's own functions answer, put down as one sentence a function (to be shown of the code); the chapter's examples. -/
import Derived.Test.YtkeekefekajfnaaStR
namespace Go.Proofs.Ytkeekefekajfnaa
open Go.RowKit
set_option maxRecDepth 100000

abbrev Lists := List (List Int)
/-- What is kept by a signature. -/
abbrev Kept := List UInt8 → Option Lists
def Kept.put (F : Kept) (s : List UInt8) (L : Lists) : Kept := fun t => if t = s then some L else F t

def nth {α : Type} (l : List α) (i : Int) : Option α := if 0 ≤ i then l[i.toNat]? else none
theorem nth_nat {α : Type} (l : List α) (i : Nat) : nth l (i : Int) = l[i]? := by simp [nth]
def manyT (l : List Tab) (i : Int) : Int := match nth l i with | some t => (t.rows.length : Int) | none => 0
def colsT (l : List Tab) (i : Int) : List Col := match nth l i with | some t => t.cols | none => []
def rowT (l : List Tab) (i n : Int) : Option (List Val) := match nth l i with | some t => nth t.rows n | none => none

/-- A slice of the call's own may be written. -/
def FreeQ (w : World) (q : Option Addr) (n : Nat) : Prop := 0 < n → ∀ g off, q = some ⟨g, off, none⟩ → ∀ o, w.frozen? ⟨g, o, none⟩ = false
structure OwnVals (w : World) (base : Nat) (q : Option Addr) (c : Nat) (r : List Val) : Prop where
  le : r.length ≤ c
  le2 : c ≤ 9223372036854775807
  arr : ValsA w base w.heap.size q r
  free : FreeQ w q r.length
structure OwnCols (w : World) (base : Nat) (q : Option Addr) (c : Nat) (r : List Col) : Prop where
  le : r.length ≤ c
  le2 : c ≤ 9223372036854775807
  arr : ColsA w base w.heap.size q r
  free : FreeQ w q r.length
/-- Lists of the call's own: each may be written. -/
structure OwnLists (w : World) (base : Nat) (q : Option Addr) (c : Nat) (L : Lists) : Prop where
  le : L.length ≤ c
  le2 : c ≤ 9223372036854775807
  arr : ListsA w base w.heap.size q L
  free : ∀ g off, q = some ⟨g, off, none⟩ → ∀ (j : Nat) (l : List Int), L[j]? = some l → ∀ p n k, w.cell? ⟨g, off + j, none⟩ = some (.slice p n k) → FreeQ w p l.length

/-- What the store's functions answer, for what is held of a store at p with the blocks S: the tables l, what is kept F, by n times of keeping. -/
structure StoreC (StP : World → (Nat → Prop) → Nat → List Tab → Kept → Nat → Prop) : Prop where
  keep : ∀ {w w' : World} {S T : Nat → Prop} {p : Nat} {l : List Tab} {F : Kept} {n : Nat}, StP w S p l F n → Out T w w' → (∀ k, T k → ¬ S k) → StP w' S p l F n
  low : ∀ {w : World} {S : Nat → Prop} {p : Nat} {l : List Tab} {F : Kept} {n : Nat}, StP w S p l F n → ∀ k, S k → k < w.heap.size
  name : ∀ (s : ByteArray) (w : World), s.size ≤ 9223372036854775807 → Calls Try.prog 9 #[.string s] w fun e w' => Tells (NameP s) e ∧ Below w.heap.size w w'
  right : ∀ (l : List Tab) (q : Option Addr) (c bl bh : Nat) (w : World), l.length ≤ c → c ≤ 9223372036854775807 → TabsA w bl bh q l → bh ≤ w.heap.size →
    Calls Try.prog 11 #[.slice q l.length c] w fun e w' => Tells (TabsP l) e ∧ Below w.heap.size w w'
  open_ : ∀ (l : List Tab) (q : Option Addr) (c bl bh : Nat) (w : World), l.length ≤ c → c ≤ 9223372036854775807 → TabsA w bl bh q l → bh ≤ w.heap.size →
    Calls Try.prog 13 #[.slice q l.length c] w fun e w' => Below w.heap.size w w' ∧
      ((TabsP l ∧ ∃ p S, e = .returned (.tuple #[.pointer (some ⟨p, 0, none⟩), .int .i64 0]) ∧ StP w' S p l (fun _ => none) 0 ∧ ∀ k, S k → w.heap.size ≤ k) ∨ (¬ TabsP l ∧ e = .returned (.tuple #[.pointer none, .int .i64 1])))
  find : ∀ (w : World) (S : Nat → Prop) (p : Nat) (l : List Tab) (F : Kept) (n : Nat) (s : ByteArray), StP w S p l F n →
    Calls Try.prog 14 #[.pointer (some ⟨p, 0, none⟩), .string s] w fun e w' => e = .returned (.int .i64 (findT s l)) ∧ Below w.heap.size w w'
  many : ∀ (w : World) (S : Nat → Prop) (p : Nat) (l : List Tab) (F : Kept) (n : Nat) (i : Int), StP w S p l F n → inR i = true →
    Calls Try.prog 15 #[.pointer (some ⟨p, 0, none⟩), .int .i64 i] w fun e w' => e = .returned (.int .i64 (manyT l i)) ∧ Below w.heap.size w w'
  cols : ∀ (w : World) (S : Nat → Prop) (p : Nat) (l : List Tab) (F : Kept) (n : Nat) (i : Int), StP w S p l F n → inR i = true →
    Calls Try.prog 16 #[.pointer (some ⟨p, 0, none⟩), .int .i64 i] w fun e w' => (∃ q c, e = .returned (.slice q (colsT l i).length c) ∧ OwnCols w' w.heap.size q c (colsT l i)) ∧ Below w.heap.size w w'
  row : ∀ (w : World) (S : Nat → Prop) (p : Nat) (l : List Tab) (F : Kept) (n : Nat) (i m : Int), StP w S p l F n → inR i = true → inR m = true →
    Calls Try.prog 17 #[.pointer (some ⟨p, 0, none⟩), .int .i64 i, .int .i64 m] w fun e w' =>
      (∃ q c, e = .returned (.tuple #[.slice q ((rowT l i m).getD []).length c, .bool (rowT l i m).isSome]) ∧ OwnVals w' w.heap.size q c ((rowT l i m).getD [])) ∧ Below w.heap.size w w'
  put : ∀ (w : World) (S : Nat → Prop) (p : Nat) (l : List Tab) (F : Kept) (n : Nat) (s : ByteArray) (L : Lists) (q : Option Addr) (c bl bh : Nat), StP w S p l F n → n < 1000 → s.size ≤ 140737488355328 → L.length ≤ c → c ≤ 9223372036854775807 → L.length ≤ 1000 → (∀ x ∈ L, x.length * 8 ≤ 140737488355328) →
    ListsA w bl bh q L → bh ≤ w.heap.size →
    Calls Try.prog 20 #[.pointer (some ⟨p, 0, none⟩), .string s, .slice q L.length c] w fun e w' => e = .returned (.tuple #[]) ∧ (∃ S', StP w' S' p l (F.put s.data.toList L) (n + 1) ∧ ∀ k, S' k → S k ∨ w.heap.size ≤ k) ∧ Out S w w'
  kept : ∀ (w : World) (S : Nat → Prop) (p : Nat) (l : List Tab) (F : Kept) (n : Nat) (s : ByteArray), StP w S p l F n → s.size ≤ 140737488355328 →
    Calls Try.prog 21 #[.pointer (some ⟨p, 0, none⟩), .string s] w fun e w' =>
      (∃ q c, e = .returned (.tuple #[.slice q ((F s.data.toList).getD []).length c, .bool (F s.data.toList).isSome]) ∧ OwnLists w' w.heap.size q c ((F s.data.toList).getD [])) ∧ Below w.heap.size w w'
  signs : ∀ (w : World) (S : Nat → Prop) (p : Nat) (l : List Tab) (F : Kept) (n : Nat), StP w S p l F n →
    Calls Try.prog 22 #[.pointer (some ⟨p, 0, none⟩)] w fun e w' =>
      (∃ q c K, e = .returned (.slice q K.length c) ∧ K.length ≤ c ∧ c ≤ 9223372036854775807 ∧ StrsA w' 0 w'.heap.size q K ∧ K.length ≤ n ∧ K.Pairwise (fun a b => a.data.toList < b.data.toList) ∧ ∀ s, s ∈ K.map (fun x => x.data.toList) ↔ (F s).isSome) ∧ Below w.heap.size w w'

theorem name_by {s : ByteArray} (h1 : 1 ≤ s.size ∧ s.size ≤ 20) (h2 : 97 ≤ byt s 0 ∧ byt s 0 ≤ 122) (h3 : ∀ i, i < s.size → okB (byt s i)) (h4 : ∀ x ∈ wordsL, x.data.toList ≠ s.data.toList) : NameP s :=
  ⟨h1, h2, h3, fun x hx => by rw [ByteArray.toList_eq, ByteArray.toList_eq]; exact h4 x hx⟩
theorem name_t : NameP ⟨#[116]⟩ := name_by (by decide) (by decide) (fun i hi => by
  have : i = 0 := by have : i < 1 := hi; omega
  subst this; exact .inl (by decide)) (by decide)
theorem name_a : NameP ⟨#[97]⟩ := name_by (by decide) (by decide) (fun i hi => by
  have : i = 0 := by have : i < 1 := hi; omega
  subst this; exact .inl (by decide)) (by decide)
theorem name_a1 : NameP ⟨#[97, 95, 49]⟩ := name_by (by decide) (by decide) (fun i hi => by
  have : i < 3 := hi
  match i, this with
  | 0, _ => exact .inl (by decide)
  | 1, _ => exact .inr (.inr (by decide))
  | 2, _ => exact .inr (.inl (by decide))) (by decide)
theorem name_word {s : ByteArray} (h : s ∈ wordsL) : ¬ NameP s := fun hn => hn.2.2.2 s h rfl
theorem name_select : ¬ NameP ⟨#[115, 101, 108, 101, 99, 116]⟩ := name_word (by unfold wordsL; simp)

def exTab : Tab := ⟨⟨#[116]⟩, [⟨⟨#[97]⟩, 1⟩], [[⟨1, 1, ⟨#[]⟩⟩], [⟨0, 0, ⟨#[]⟩⟩]]⟩
theorem exTab_right : TabsP [exTab] := by
  refine ⟨by simp, fun i t h => ?_⟩
  have hi : i < 1 := (List.getElem?_eq_some_iff.1 h).1
  obtain rfl : i = 0 := by omega
  obtain rfl : exTab = t := by simpa using h
  refine ⟨⟨name_t, by decide, by decide, fun j c hc => ?_, fun j r hr => ?_⟩, fun k u hk => absurd hk (by omega)⟩
  · have hj : j < 1 := (List.getElem?_eq_some_iff.1 hc).1
    obtain rfl : j = 0 := by omega
    obtain rfl : (⟨⟨#[97]⟩, 1⟩ : Col) = c := by simpa [exTab] using hc
    exact ⟨name_a, by decide, fun k d hk => absurd hk (by omega)⟩
  · have hj : j < 2 := (List.getElem?_eq_some_iff.1 hr).1
    match j, hj with
    | 0, _ =>
      obtain rfl : [(⟨1, 1, ⟨#[]⟩⟩ : Val)] = r := by simpa [exTab] using hr
      refine ⟨rfl, fun i v c hv hc => ?_⟩
      have hi : i < 1 := (List.getElem?_eq_some_iff.1 hv).1
      obtain rfl : i = 0 := by omega
      obtain rfl : (⟨1, 1, ⟨#[]⟩⟩ : Val) = v := by simpa using hv
      obtain rfl : (⟨⟨#[97]⟩, 1⟩ : Col) = c := by simpa [exTab] using hc
      exact ⟨by simp [Val.right, ByteArray.toList_eq], .inr rfl⟩
    | 1, _ =>
      obtain rfl : [(⟨0, 0, ⟨#[]⟩⟩ : Val)] = r := by simpa [exTab] using hr
      refine ⟨rfl, fun i v c hv hc => ?_⟩
      have hi : i < 1 := (List.getElem?_eq_some_iff.1 hv).1
      obtain rfl : i = 0 := by omega
      obtain rfl : (⟨0, 0, ⟨#[]⟩⟩ : Val) = v := by simpa using hv
      exact ⟨by simp [Val.right, ByteArray.toList_eq], .inl rfl⟩

end Go.Proofs.Ytkeekefekajfnaa
