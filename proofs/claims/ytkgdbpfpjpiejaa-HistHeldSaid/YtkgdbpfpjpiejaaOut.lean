/- What a call may have changed of what was there. -/
import Derived.Test.YtkgdbpfpjpiejaaVal
namespace Go.Proofs.Ytkgdbpfpjpiejaa
open Go.RowKit

/-- Of what was there only blocks with S may have changed. -/
structure Out (S : Nat → Prop) (w w' : World) : Prop where
  os : w'.os = w.os
  tape : w'.tape = w.tape
  output : w'.output = w.output
  size : w.heap.size ≤ w'.heap.size
  block : ∀ k, k < w.heap.size → ¬ S k → w'.heap[k]? = w.heap[k]?

theorem Out.refl (S : Nat → Prop) (w : World) : Out S w w := ⟨rfl, rfl, rfl, Nat.le_refl _, fun _ _ _ => rfl⟩
theorem Out.trans {S : Nat → Prop} {a b c : World} (h : Out S a b) (k : Out S b c) : Out S a c :=
  ⟨k.os.trans h.os, k.tape.trans h.tape, k.output.trans h.output, Nat.le_trans h.size k.size, fun i hi hn => (k.block i (Nat.lt_of_lt_of_le hi h.size) hn).trans (h.block i hi hn)⟩
theorem Out.mono {S T : Nat → Prop} {a b : World} (h : Out S a b) (hs : ∀ k, k < a.heap.size → S k → T k) : Out T a b :=
  ⟨h.os, h.tape, h.output, h.size, fun i hi hn => h.block i hi fun k => hn (hs i hi k)⟩
theorem Out.from_ {S : Nat → Prop} {a b : World} {N : Nat} (h : Below N a b) (hS : ∀ k, N ≤ k → S k) : Out S a b := ⟨h.os, h.tape, h.output, h.size, fun i _ hn => h.block i (Nat.lt_of_not_le fun k => hn (hS i k))⟩
theorem Out.of {S : Nat → Prop} {a b : World} (h : Below a.heap.size a b) : Out S a b := ⟨h.os, h.tape, h.output, h.size, fun i hi _ => h.block i hi⟩
theorem Out.grown {S : Nat → Prop} {a b : World} {r : Option Nat} (h : a.grownBy b r) (hr : ∀ k, r = some k → S k) : Out S a b := ⟨h.os, h.tape, h.output, h.size, fun i hi hn => h.block i hi fun e => hn (hr i e.symm)⟩
theorem Out.below {S : Nat → Prop} {a b : World} {N : Nat} (h : Out S a b) (hN : N ≤ a.heap.size) (hS : ∀ k, S k → N ≤ k) : Below N a b :=
  ⟨h.os, h.tape, h.output, h.size, fun i hi => h.block i (Nat.lt_of_lt_of_le hi hN) fun k => by have := hS i k; omega⟩
theorem Out.set {S : Nat → Prop} {a : World} (p : Addr) (v : Value) (h : S p.block) : Out S a (a.setCell p v) :=
  ⟨rfl, rfl, rfl, by simp [World.setCell], fun i _ hn => Below.heap_setCell _ _ _ _ fun e => hn (e ▸ h)⟩
theorem Out.alloc {S : Nat → Prop} (a : World) (o : Obj) : Out S a (a.alloc o) := Out.of ((Below.refl _ _).alloc (Nat.le_refl _) o)
theorem Out.drew {S : Nat → Prop} (a : World) : Out S a a.drew := Out.of (Below.refl _ _).drew

end Go.Proofs.Ytkgdbpfpjpiejaa
