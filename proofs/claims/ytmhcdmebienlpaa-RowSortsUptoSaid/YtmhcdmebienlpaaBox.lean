/- A value that lies in a block of its own: behind a call, behind a new block, behind a store. -/
import Derived.Test.YtmhcdmebienlpaaVal
namespace Go.Proofs.Ytmhcdmebienlpaa
open Go.RowKit

/-- Block b holds the value x, and may be written. -/
structure Box (W : World) (b : Nat) (x : Val) : Prop where
  lt : b < W.heap.size
  c0 : W.cell? ⟨b, 0, none⟩ = some (.int .i64 x.k)
  c1 : W.cell? ⟨b, 1, none⟩ = some (.int .i64 x.n)
  c2 : W.cell? ⟨b, 2, none⟩ = some (.string x.s)
  fr : ∀ o, W.frozen? ⟨b, o, none⟩ = false

theorem Box.ext {W W' : World} {b : Nat} {x : Val} (h : Box W b x) (hb : Below W.heap.size W W') : Box W' b x :=
  ⟨Nat.lt_of_lt_of_le h.lt hb.size, (hb.cell (p := ⟨b, 0, none⟩) h.lt).trans h.c0, (hb.cell (p := ⟨b, 1, none⟩) h.lt).trans h.c1, (hb.cell (p := ⟨b, 2, none⟩) h.lt).trans h.c2, fun o => (hb.frozen (p := ⟨b, o, none⟩) h.lt).trans (h.fr o)⟩
theorem Box.alloc {W : World} {b : Nat} {x : Val} (h : Box W b x) (o : Obj) : Box (W.alloc o) b x := h.ext ((Below.refl _ _).alloc (Nat.le_refl _) o)
theorem Box.drew {W : World} {b : Nat} {x : Val} (h : Box W b x) : Box W.drew b x := h.ext (Below.refl _ _).drew
theorem Box.new (W : World) (k n : Int) (s : ByteArray) (t : TypeId) : Box (W.alloc (.cells #[.int .i64 k, .int .i64 n, .string s] t)) W.heap.size ⟨k, n, s⟩ :=
  ⟨by simp, by simp [go_sem], by simp [go_sem], by simp [go_sem], fun o => by simp [go_sem]⟩
theorem Box.new1 (W : World) (o : Obj) (k n : Int) (s : ByteArray) (t : TypeId) : Box ((W.alloc o).alloc (.cells #[.int .i64 k, .int .i64 n, .string s] t)) (W.heap.size + 1) ⟨k, n, s⟩ := by
  have h := Box.new (W.alloc o) k n s t
  rwa [World.size_alloc] at h
theorem Box.new2 (W : World) (o o' : Obj) (k n : Int) (s : ByteArray) (t : TypeId) : Box (((W.alloc o).alloc o').alloc (.cells #[.int .i64 k, .int .i64 n, .string s] t)) (W.heap.size + 1 + 1) ⟨k, n, s⟩ := by
  have h := Box.new ((W.alloc o).alloc o') k n s t
  rwa [World.size_alloc, World.size_alloc] at h
theorem Box.far {W : World} {b b' : Nat} {x : Val} (h : Box W b x) (hn : b ≠ b') (o : Nat) (v : Value) : Box (W.setCell ⟨b', o, none⟩ v) b x := by
  have hc : ∀ j, (W.setCell ⟨b', o, none⟩ v).cell? ⟨b, j, none⟩ = W.cell? ⟨b, j, none⟩ := fun j => World.cell?_of_block (Below.heap_setCell _ _ _ _ hn)
  exact ⟨by simpa using h.lt, (hc 0).trans h.c0, (hc 1).trans h.c1, (hc 2).trans h.c2, fun j => (World.frozen?_of_block (Below.heap_setCell _ _ _ _ hn)).trans (h.fr j)⟩
theorem Box.far3 {W : World} {b b' : Nat} {x : Val} (h : Box W b x) (hn : b ≠ b') (u v t : Value) : Box (((W.setCell ⟨b', 0, none⟩ u).setCell ⟨b', 1, none⟩ v).setCell ⟨b', 2, none⟩ t) b x := ((h.far hn 0 u).far hn 1 v).far hn 2 t
theorem Box.set {W : World} {b : Nat} {x : Val} (h : Box W b x) (k n : Int) (s : ByteArray) :
    Box (((W.setCell ⟨b, 0, none⟩ (.int .i64 k)).setCell ⟨b, 1, none⟩ (.int .i64 n)).setCell ⟨b, 2, none⟩ (.string s)) b ⟨k, n, s⟩ := by
  have h0 := h.c0
  have h1 := h.c1
  have h2 := h.c2
  have hl := h.lt
  refine ⟨by simpa using h.lt, ?_, ?_, ?_, fun o => ?_⟩
  · simp [go_sem, h0]
  · simp [go_sem, h1]
  · simp [go_sem, h2]
  · simp [go_sem, h.fr]
theorem ext_set3 {W w : World} {b : Nat} (hp : W.heap.size ≤ b) (u v t : Value) (h : Below W.heap.size W w) : Below W.heap.size W (((w.setCell ⟨b, 0, none⟩ u).setCell ⟨b, 1, none⟩ v).setCell ⟨b, 2, none⟩ t) :=
  ext_set hp t (ext_set hp v (ext_set hp u h))

end Go.Proofs.Ytmhcdmebienlpaa
