/- Two lists of numbers that are the same: the law's own comparison. -/
import Derived.Test.YtflbeccfdbjbhaaStD
import Derived.BigQuiet
namespace Go.Proofs.Ytflbeccfdbjbhaa
open Go.RowKit
set_option maxRecDepth 100000

set_option maxHeartbeats 1000000 in
theorem numbers_same (A : List Int) (qa qb : Option Addr) (ca cb l1 h1 l2 h2 : Nat) (w : World) (_ : A.length ≤ ca) (_ : ca ≤ 9223372036854775807) (_ : A.length ≤ cb) (hA : IntsA w l1 h1 qa A) (hB : IntsA w l2 h2 qb A) :
    Calls Try.prog 7 #[.slice qa A.length ca, .slice qb A.length cb] w fun e w' => e = .returned (.bool true) ∧ Below w.heap.size w w' := by
  have HA := Lib.hid hA
  have HB := Lib.hid hB
  clear hA hB
  go_enter Try.func7, Try.ntmps7
  go_wp2
  go_loopw [5] (fun vi wr => ∃ i : Nat, vi = .int .i64 i ∧ i ≤ A.length ∧ Below w.heap.size w wr) (fun vi _ => A.length - (intOf vi).toNat)
  case atStart => exact ⟨0, rfl, Nat.zero_le _, Below.refl _ _⟩
  case round =>
    obtain ⟨i, rfl, hi, hb⟩ := hrel
    obtain ⟨V, hV⟩ : ∃ V, V = wr := ⟨_, rfl⟩
    subst hV
    have hbi : Hid (Below w.heap.size w V) := hb
    by_cases hlt : i < A.length
    · obtain ⟨x, hx⟩ : ∃ x, A[i]? = some x := ⟨_, List.getElem?_eq_getElem hlt⟩
      obtain ⟨g, off, rfl, hg1, hg2, hcA⟩ := HA.out i hlt
      obtain ⟨g', off', rfl, hg3, hg4, hcB⟩ := HB.out i hlt
      have a0 := hcA i x hx
      have b0 := hcB i x hx
      unfold intC at a0 b0
      rw [Nat.mul_one] at a0 b0
      have c0 := (hb.cell (p := ⟨g, off + i, none⟩) (World.block_lt_of_cell? w ⟨g, off + i, none⟩ (by rw [a0]))).trans a0
      have d0 := (hb.cell (p := ⟨g', off' + i, none⟩) (World.block_lt_of_cell? w ⟨g', off' + i, none⟩ (by rw [b0]))).trans b0
      clear hcA hcB a0 b0 hx hb
      go_wp2_with fail
      go_big_quiet (fail)
      go_wp2
      go_roundw
      case rel => exact ⟨i + 1, by go_num, hlt, hbi.out.trans ((Below.refl _ _).trans (ext_drewN (ext_refl V) nq) |>.mono hbi.out.size)⟩
      case measure => simp [intOf] <;> omega
    · go_wp2
      go_ret
      exact ⟨rfl, hbi.out⟩

end Go.Proofs.Ytflbeccfdbjbhaa
