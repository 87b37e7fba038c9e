/- A value of the program, and what was there before a call and is there behind it. -/
import Derived.Test.YtkgdbpfpjpiejaaRows
import Derived.WalkKit
import Derived.WalkSpells
import Derived.WalkLawsBesides
import Derived.BigQuiet
import Derived.Deep.RegionHeld3
import Derived.Deep.DeepCutAuto
import Derived.Lib.Hide
namespace Go.Proofs.Ytkgdbpfpjpiejaa
open Go.RowKit

/-- A value: its kind, its number, its text. -/
structure Val where
  k : Int
  n : Int
  s : ByteArray

/-- The value as the model holds it. -/
abbrev Val.v (x : Val) : Value := .agg #[.int .i64 x.k, .int .i64 x.n, .string x.s]

abbrev num (k : Int) : Val := ⟨1, k, ⟨#[]⟩⟩
abbrev tru (k : Int) : Val := ⟨2, k, ⟨#[]⟩⟩
abbrev nul : Val := ⟨0, 0, ⟨#[]⟩⟩

/-- 1 for yes, 0 for no. -/
def bit (b : Bool) : Int := if b then 1 else 0

def Val.right (x : Val) : Bool :=
  if x.k = 0 then x.n == 0 && x.s.toList.isEmpty else if x.k = 1 then x.s.toList.isEmpty else if x.k = 2 then (x.n == 0 || x.n == 1) && x.s.toList.isEmpty
  else if x.k = 3 then x.n == 0 && decide (x.s.size ≤ 40) else false

/-- Right, and NULL or of a kind. -/
def Val.nullOr (kd : Int) (x : Val) : Bool := x.right && (x.k == 0 || x.k == kd)

/-- A number fits into 64 bits. -/
def inR (z : Int) : Bool := decide (-9223372036854775808 ≤ z ∧ z ≤ 9223372036854775807)

@[simp, go_sem] theorem lt_s2 (n : Nat) : n < n + 1 + 1 := by omega
@[simp, go_sem] theorem lt_s3 (n : Nat) : n < n + 1 + 1 + 1 := by omega
@[simp, go_sem] theorem lt_s4 (n : Nat) : n < n + 1 + 1 + 1 + 1 := by omega
@[simp, go_sem] theorem lt_s5 (n : Nat) : n < n + 1 + 1 + 1 + 1 + 1 := by omega
@[simp, go_sem] theorem lt_s6 (n : Nat) : n < n + 1 + 1 + 1 + 1 + 1 + 1 := by omega
@[simp, go_sem] theorem lt_s7 (n : Nat) : n < n + 1 + 1 + 1 + 1 + 1 + 1 + 1 := by omega
@[simp, go_sem] theorem lt_s8 (n : Nat) : n < n + 1 + 1 + 1 + 1 + 1 + 1 + 1 + 1 := by omega
@[simp, go_sem] theorem ne_s2 (n : Nat) : (n = n + 1 + 1) = False := by simp; omega
@[simp, go_sem] theorem ne_t2 (n : Nat) : (n + 1 + 1 = n) = False := by simp; omega
@[simp, go_sem] theorem ne_s3 (n : Nat) : (n = n + 1 + 1 + 1) = False := by simp; omega
@[simp, go_sem] theorem ne_t3 (n : Nat) : (n + 1 + 1 + 1 = n) = False := by simp; omega
@[simp, go_sem] theorem ne_s4 (n : Nat) : (n = n + 1 + 1 + 1 + 1) = False := by simp; omega
@[simp, go_sem] theorem ne_t4 (n : Nat) : (n + 1 + 1 + 1 + 1 = n) = False := by simp; omega
@[simp, go_sem] theorem ne_s5 (n : Nat) : (n = n + 1 + 1 + 1 + 1 + 1) = False := by simp; omega
@[simp, go_sem] theorem ne_t5 (n : Nat) : (n + 1 + 1 + 1 + 1 + 1 = n) = False := by simp; omega

theorem kept {W w1 : World} (hb : Below W.heap.size W w1) : (∀ b o, b < W.heap.size → w1.cell? ⟨b, o, none⟩ = W.cell? ⟨b, o, none⟩) ∧ (∀ n, n < W.heap.size → n < w1.heap.size) ∧ ∀ b o, b < W.heap.size → w1.frozen? ⟨b, o, none⟩ = W.frozen? ⟨b, o, none⟩ :=
  ⟨fun b o h => hb.cell (p := ⟨b, o, none⟩) h, fun _ h => Nat.lt_of_lt_of_le h hb.size, fun b o h => hb.frozen (p := ⟨b, o, none⟩) h⟩

theorem ext_refl (W : World) : Below W.heap.size W W := Below.refl _ _
theorem ext_alloc {W w : World} (h : Below W.heap.size W w) (o : Obj) : Below W.heap.size W (w.alloc o) := h.alloc h.size o
theorem ext_drew {W w : World} (h : Below W.heap.size W w) : Below W.heap.size W w.drew := h.drew
theorem ext_drewN {W w : World} (h : Below W.heap.size W w) (n : Nat) : Below W.heap.size W (w.drewN n) := ⟨h.os, h.tape, h.output, h.size, h.block⟩
theorem ext_set {W w : World} {p : Addr} (hp : W.heap.size ≤ p.block) (u : Value) (h : Below W.heap.size W w) : Below W.heap.size W (w.setCell p u) := h.setCell hp u
theorem ext_trans {W a b : World} (h : Below W.heap.size W a) (k : Below a.heap.size a b) : Below W.heap.size W b := h.trans (k.mono h.size)

end Go.Proofs.Ytkgdbpfpjpiejaa
