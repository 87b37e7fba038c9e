/- Bags in memory: a pointer to a map and a number. A bag is told by the list of its texts, whatever their order. -/
import Derived.Test.YtinonaiolhgklaaVal
import Derived.Maps.Own
import Derived.Maps.OwnOps
import Derived.Maps.OwnSet
import Derived.Maps.RangeWalk
import Derived.Maps.Ext
import Derived.Sort.KeysCollected
namespace Go.Proofs.Ytinonaiolhgklaa
open Go.RowKit Go.Maps
open Go.Proofs (encStr)

abbrev Txt := List UInt8

/-- Of what was there only blocks with S may have changed. -/
structure Out (S : Nat → Prop) (w w' : World) : Prop where
  os : w'.os = w.os
  tape : w'.tape = w.tape
  output : w'.output = w.output
  size : w.heap.size ≤ w'.heap.size
  block : ∀ k, k < w.heap.size → ¬ S k → w'.heap[k]? = w.heap[k]?

theorem Out.refl (S : Nat → Prop) (w : World) : Out S w w := ⟨rfl, rfl, rfl, Nat.le_refl _, fun _ _ _ => rfl⟩
theorem Out.trans {S : Nat → Prop} {a b c : World} (h : Out S a b) (k : Out S b c) : Out S a c :=
  ⟨k.os.trans h.os, k.tape.trans h.tape, k.output.trans h.output, Nat.le_trans h.size k.size, fun i hi hn => (k.block i (Nat.lt_of_lt_of_le hi h.size) hn).trans (h.block i hi hn)⟩
theorem Out.mono {S T : Nat → Prop} {a b : World} (h : Out S a b) (hs : ∀ k, k < a.heap.size → S k → T k) : Out T a b :=
  ⟨h.os, h.tape, h.output, h.size, fun i hi hn => h.block i hi fun k => hn (hs i hi k)⟩
theorem Out.of {S : Nat → Prop} {a b : World} (h : Below a.heap.size a b) : Out S a b := ⟨h.os, h.tape, h.output, h.size, fun i hi _ => h.block i hi⟩
theorem Out.grown {S : Nat → Prop} {a b : World} {r : Option Nat} (h : a.grownBy b r) (hr : ∀ k, r = some k → S k) : Out S a b := ⟨h.os, h.tape, h.output, h.size, fun i hi hn => h.block i hi fun e => hn (hr i e.symm)⟩
theorem Out.below {S : Nat → Prop} {a b : World} {N : Nat} (h : Out S a b) (hN : N ≤ a.heap.size) (hS : ∀ k, S k → N ≤ k) : Below N a b :=
  ⟨h.os, h.tape, h.output, h.size, fun i hi => h.block i (Nat.lt_of_lt_of_le hi hN) fun k => by have := hS i k; omega⟩
theorem Out.set {S : Nat → Prop} {a : World} (p : Addr) (v : Value) (h : S p.block) : Out S a (a.setCell p v) :=
  ⟨rfl, rfl, rfl, by simp [World.setCell], fun i _ hn => Below.heap_setCell _ _ _ _ fun e => hn (e ▸ h)⟩
theorem Out.alloc {S : Nat → Prop} (a : World) (o : Obj) : Out S a (a.alloc o) := Out.of ((Below.refl _ _).alloc (Nat.le_refl _) o)
theorem Out.drew {S : Nat → Prop} (a : World) : Out S a a.drew := Out.of (Below.refl _ _).drew

/-- What a map reads as that says how often each text is there. -/
structure BagD (D : DataW Unit) (L : List Txt) : Prop where
  has : ∀ s, Maps.has D (.string s) = decide (s ∈ L)
  at_ : ∀ s z, s ∈ L → D.atKey (.string s) z = .lit (.int .i64 (L.count s))

theorem BagD.nil : BagD (.map []) [] := ⟨fun s => rfl, fun s z h => by cases h⟩
theorem BagD.get {D : DataW Unit} {L : List Txt} (h : BagD D L) (s : Txt) : D.atKey (.string s) (.lit (.int .i64 0)) = .lit (.int .i64 (L.count s)) := by
  by_cases e : s ∈ L
  · exact h.at_ s _ e
  · rw [atKey_of_not_has (by rw [h.has s]; simpa using e), List.count_eq_zero.2 e]; rfl
theorem str_key (s : Txt) : WideAt.IsKeyLit (.string s) := trivial
theorem str_ne {s t : Txt} (h : s ≠ t) : Lit.string s ≠ Lit.string t := fun e => h (by simpa using e)
theorem BagD.put {D : DataW Unit} {L : List Txt} (h : BagD D L) (hm : IsMap D) (s : Txt) (n : Nat) (hn : 0 < n) : BagD (D.put (.string s) (.lit (.int .i64 ((L.count s + n : Nat) : Int)))) (List.replicate n s ++ L) := by
  refine ⟨fun t => ?_, fun t z ht => ?_⟩
  · by_cases e : t = s
    · subst e
      rw [has_put_same hm (str_key _)]
      simp [show n ≠ 0 by omega]
    · rw [has_put_other (str_ne e), h.has t]
      simp [e]
  · by_cases e : t = s
    · subst e
      rw [atKey_put_same hm (str_key _), List.count_append, List.count_replicate_self]
      congr 3
      omega
    · have ht' : t ∈ L := by simpa [e] using ht
      rw [atKey_put_other (str_ne e), h.at_ t z ht', List.count_append, List.count_replicate, if_neg (by simpa using fun k => e k.symm), Nat.zero_add]
theorem count_erase_other {s t : Txt} (L : List Txt) (h : t ≠ s) : (L.erase s).count t = L.count t := by rw [List.count_erase, if_neg (by simpa using fun k => h k.symm), Nat.sub_zero]
theorem BagD.del {D : DataW Unit} {L : List Txt} (h : BagD D L) (s : Txt) (hc : L.count s = 1) : BagD (D.del (.string s)) (L.erase s) := by
  have h0 : s ∉ L.erase s := by rw [← List.count_eq_zero, List.count_erase_self]; omega
  refine ⟨fun t => ?_, fun t z ht => ?_⟩
  · by_cases e : t = s
    · subst e
      rw [has_del_same]
      simp [h0]
    · rw [has_del_other (str_ne e), h.has t]
      simp only [List.mem_erase_of_ne e]
  · have e : t ≠ s := fun k => h0 (k ▸ ht)
    rw [atKey_del_other (str_ne e), h.at_ t z (List.mem_of_mem_erase ht), count_erase_other L e]
theorem BagD.down {D : DataW Unit} {L : List Txt} (h : BagD D L) (hm : IsMap D) (s : Txt) (c : Nat) (hc : L.count s = c + 1) (h1 : 0 < c) : BagD (D.put (.string s) (.lit (.int .i64 (c : Int)))) (L.erase s) := by
  have h0 : s ∈ L.erase s := by rw [← List.count_pos_iff, List.count_erase_self]; omega
  refine ⟨fun t => ?_, fun t z ht => ?_⟩
  · by_cases e : t = s
    · subst e
      rw [has_put_same hm (str_key _)]
      simp [h0]
    · rw [has_put_other (str_ne e), h.has t]
      simp only [List.mem_erase_of_ne e]
  · by_cases e : t = s
    · subst e
      rw [atKey_put_same hm (str_key _), List.count_erase_self, hc]
      rfl
    · rw [atKey_put_other (str_ne e), h.at_ t z (List.mem_of_mem_erase ht), count_erase_other L e]

theorem Try.law : Keyed Try.prog 9 := string_keyed Try.underlying9
theorem Try.zeroInt (w : World) : (zeroValue 3).run Try.prog w = .ok (.int .i64 0) w := by kernel_rfl

/-- The pointer to block p is a bag that has the texts L; its map lies in block m; it has been put into at most N times. -/
structure BagP (w : World) (p m N : Nat) (L : List Txt) : Prop where
  blk : w.heap[p]? = some (.cells #[.map (some m), .int .i64 (L.length : Int)] 50 (0, 0))
  own : ∃ D : DataW Unit, w.ownsMap Try.prog 9 (plainElem Try.prog 3) m N D ∧ BagD D L

theorem BagP.lt {w : World} {p m N : Nat} {L : List Txt} (h : BagP w p m N L) : p < w.heap.size := by
  rcases Nat.lt_or_ge p w.heap.size with h1 | h1
  · exact h1
  · have := h.blk; rw [Array.getElem?_eq_none h1] at this; cases this
theorem BagP.ltm {w : World} {p m N : Nat} {L : List Txt} (h : BagP w p m N L) : m < w.heap.size := by
  obtain ⟨D, h1, _⟩ := h.own
  exact h1.lt
theorem BagP.ne {w : World} {p m N : Nat} {L : List Txt} (h : BagP w p m N L) : p ≠ m := by
  obtain ⟨D, ⟨es, clock, h1, _⟩, _⟩ := h.own
  intro e
  have := h.blk
  rw [e, h1] at this
  cases this
theorem BagP.keep {S : Nat → Prop} {w w' : World} {p m N : Nat} {L : List Txt} (h : BagP w p m N L) (o : Out S w w') (hp : ¬ S p) (hm : ¬ S m) : BagP w' p m N L := by
  have hl := h.lt
  obtain ⟨D, ⟨es, clock, h1, h2⟩, h3⟩ := h.own
  have hlm := h.ltm
  exact ⟨by rw [o.block p hl hp]; exact h.blk, D, ⟨es, clock, by rw [o.block m hlm hm]; exact h1, h2⟩, h3⟩
theorem BagP.ext {w w' : World} {p m N : Nat} {L : List Txt} (h : BagP w p m N L) (hb : Below w.heap.size w w') : BagP w' p m N L := h.keep (S := fun _ => False) (Out.of hb) id id
theorem BagP.c0 {w : World} {p m N : Nat} {L : List Txt} (h : BagP w p m N L) : w.cell? ⟨p, 0, none⟩ = some (.map (some m)) := by rw [Lib.cell_of_heap h.blk]; rfl
theorem BagP.c1 {w : World} {p m N : Nat} {L : List Txt} (h : BagP w p m N L) : w.cell? ⟨p, 1, none⟩ = some (.int .i64 (L.length : Int)) := by rw [Lib.cell_of_heap h.blk]; rfl
theorem BagP.fr {w : World} {p m N : Nat} {L : List Txt} (h : BagP w p m N L) (o : Nat) : w.frozen? ⟨p, o, none⟩ = false := Lib.frozen_of_heap h.blk o
theorem BagP.mono {w : World} {p m N N' : Nat} {L : List Txt} (h : BagP w p m N L) (hn : N ≤ N') : BagP w p m N' L := by
  obtain ⟨D, h1, h2⟩ := h.own
  exact ⟨h.blk, D, h1.mono hn, h2⟩
/-- Behind a store of the total. -/
theorem BagP.total {w : World} {p m N : Nat} {T : Int} {L : List Txt} (hb : w.heap[p]? = some (.cells #[.map (some m), .int .i64 T] 50 (0, 0))) {D : DataW Unit} (ho : w.ownsMap Try.prog 9 (plainElem Try.prog 3) m N D) (hD : BagD D L) :
    BagP (w.setCell ⟨p, 1, none⟩ (.int .i64 (L.length : Int))) p m N L := by
  have hne : m ≠ p := by
    obtain ⟨es, clock, h1, _⟩ := ho
    intro e
    rw [e, hb] at h1
    cases h1
  refine ⟨?_, D, ho.setCell hne _, hD⟩
  rw [setCell_eq_setRow w p 1 _ _ _ _ hb]
  exact setRow_heap w p _ _ _ _ hb

end Go.Proofs.Ytinonaiolhgklaa
