/- pick: 0, 1 or 2, out of any number. -/
import Derived.Test.YtklbomfcejgbmaaValC
import Derived.Test.YtklbomfcejgbmaaValE
import Derived.Test.YtklbomfcejgbmaaBox
import Derived.Test.YtklbomfcejgbmaaFrame
namespace Go.Proofs.Ytklbomfcejgbmaa
open Go.RowKit

/-- What 'pick' answers. -/
def pk (k : Int) : Nat := ((if k < 0 then -(k + 1) else k) % 3).toNat
theorem pk_lt (k : Int) : pk k < 3 := by unfold pk; omega

set_option maxHeartbeats 400000 in
theorem pick_any (k : Int) (w : World) (hk : inR k = true) :
    Calls Try.prog 35 #[.int .i64 k] w fun e w' => e = .returned (.int .i64 (pk k : Int)) ∧ w = w' := by
  obtain ⟨h0, h1⟩ := (inR_iff k).1 hk
  clear hk
  by_cases h : k < 0
  · have he : Hid (((pk k : Nat) : Int) = -((k + 1).tmod 3)) := by
      have e1 : (k + 1).tmod 3 = -((-(k + 1)).tmod 3) := by rw [Int.neg_tmod, Int.neg_neg]
      have e2 : (-(k + 1)).tmod 3 = (-(k + 1)) % 3 := Int.tmod_eq_emod_of_nonneg (by omega)
      rw [e1, e2]
      unfold pk; rw [if_pos h]; show _ = _; omega
    go_enter Try.func35, Try.ntmps35
    go_wp2
    go_ret
    refine ⟨?_, rfl⟩
    rw [he.out]
    rfl
  · have he : Hid (((pk k : Nat) : Int) = k % 3) := by
      unfold pk; rw [if_neg h]; show _ = _; omega
    go_enter Try.func35, Try.ntmps35
    go_wp2
    go_ret
    refine ⟨?_, rfl⟩
    rw [he.out]
    rfl

/-- The three that may be picked. -/
def tri : Nat → Val
  | 0 => nul
  | 1 => tru 0
  | _ => tru 1

/-- The list of the three, in a block of its own. -/
def Tab (W : World) (b : Nat) : Prop := b < W.heap.size ∧ ∀ t, t < 3 → W.cell? ⟨b, t * 3, none⟩ = some (.int .i64 (tri t).k) ∧ W.cell? ⟨b, t * 3 + 1, none⟩ = some (.int .i64 (tri t).n) ∧ W.cell? ⟨b, t * 3 + 2, none⟩ = some (.string (tri t).s)
theorem Tab.alloc {W : World} {b : Nat} (h : Tab W b) (o : Obj) : Tab (W.alloc o) b := by
  refine ⟨by simp; have := h.1; omega, fun t ht => ?_⟩
  obtain ⟨h0, h1, h2⟩ := h.2 t ht
  exact ⟨(World.cell?_alloc_lt _ _ _ h.1).trans h0, (World.cell?_alloc_lt _ _ _ h.1).trans h1, (World.cell?_alloc_lt _ _ _ h.1).trans h2⟩
theorem Tab.new (W : World) (y : TypeId) : Tab (W.alloc (.cells #[.int .i64 0, .int .i64 0, .string ⟨#[]⟩, .int .i64 2, .int .i64 0, .string ⟨#[]⟩, .int .i64 2, .int .i64 1, .string ⟨#[]⟩] y)) W.heap.size := by
  refine ⟨by simp, fun t ht => ?_⟩
  have h : t = 0 ∨ t = 1 ∨ t = 2 := by omega
  rcases h with rfl | rfl | rfl <;> simp [go_sem, tri]
theorem tri_nullOr (t : Nat) : (tri t).nullOr 2 = true := by
  match t with
  | 0 => simp [tri, Val.nullOr, Val.right]
  | 1 => simp [tri, Val.nullOr, Val.right]
  | _ + 2 => simp [tri, Val.nullOr, Val.right]

end Go.Proofs.Ytklbomfcejgbmaa
