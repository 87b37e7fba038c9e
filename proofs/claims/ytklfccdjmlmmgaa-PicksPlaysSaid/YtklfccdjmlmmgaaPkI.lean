/- Numbers in a slice; the law package's 'numbers': are two lists the same? -/
import Derived.Test.YtklfccdjmlmmgaaVal
namespace Go.Proofs.Ytklfccdjmlmmgaa
open Go.RowKit

/-- Numbers behind the address q, in a block below B. -/
def SrcI (w : World) (B : Nat) (q : Option Addr) (K : List Int) : Prop := ∀ i, i < K.length → ∃ g off, q = some ⟨g, off, none⟩ ∧ g < B ∧ ∀ j u, K[j]? = some u → w.cell? ⟨g, off + j, none⟩ = some (.int .i64 u)
theorem SrcI.ext {w w' : World} {B : Nat} {q : Option Addr} {K : List Int} (h : SrcI w B q K) (hb : Below B w w') : SrcI w' B q K := fun i hi => by
  obtain ⟨g, off, h1, h2, h3⟩ := h i hi
  exact ⟨g, off, h1, h2, fun j u hu => (hb.cell (p := ⟨g, off + j, none⟩) h2).trans (h3 j u hu)⟩
theorem SrcI.up {w : World} {B B' : Nat} {q : Option Addr} {K : List Int} (h : SrcI w B q K) (hB : B ≤ B') : SrcI w B' q K := fun i hi => by
  obtain ⟨g, off, h1, h2, h3⟩ := h i hi
  exact ⟨g, off, h1, Nat.lt_of_lt_of_le h2 hB, h3⟩

theorem take_eq_all {A B : List Int} (hn : A.length = B.length) (h : ∀ j, j < A.length → A[j]? = B[j]?) : A = B := by
  apply List.ext_getElem?
  intro j
  rcases Nat.lt_or_ge j A.length with h1 | h1
  · exact h j h1
  · rw [List.getElem?_eq_none h1, List.getElem?_eq_none (by omega)]

set_option maxRecDepth 100000 in
set_option maxHeartbeats 1000000 in
theorem numbers_any (q q' : Option Addr) (c c' : Nat) (A B : List Int) (w : World) (hn : A.length ≤ 9223372036854775807) (_ : B.length ≤ 9223372036854775807) (h : SrcI w w.heap.size q A) (h' : SrcI w w.heap.size q' B) :
    Calls Try.prog 13 #[.slice q A.length c, .slice q' B.length c'] w fun e w' => e = .returned (.bool (decide (A = B))) ∧ Below w.heap.size w w' := by
  by_cases hnn : A.length = B.length
  · rw [← hnn]
    go_enter Try.func13, Try.ntmps13
    go_wp2
    go_loopw [5] (fun vi wr => ∃ i : Nat, vi = .int .i64 i ∧ i ≤ A.length ∧ Hid (∀ j, j < i → A[j]? = B[j]?) ∧ Hid (Below w.heap.size w wr)) (fun vi _ => A.length - (intOf vi).toNat)
    case atStart => exact ⟨0, rfl, Nat.zero_le _, fun j hj => absurd hj (Nat.not_lt_zero _), Below.refl _ _⟩
    case round =>
      obtain ⟨i, rfl, hi, HJ, HH⟩ := hrel
      by_cases hlt : i < A.length
      · obtain ⟨g, off, rfl, _, hc⟩ := (h.ext HH.out) i hlt
        obtain ⟨g', off', rfl, _, hc'⟩ := (h'.ext HH.out) i (by omega)
        obtain ⟨x, hx⟩ : ∃ x, x = A[i] := ⟨_, rfl⟩
        obtain ⟨y, hy⟩ : ∃ y, y = B[i]'(by omega) := ⟨_, rfl⟩
        have e1 : A[i]? = some x := by rw [hx]; exact List.getElem?_eq_getElem hlt
        have e2 : B[i]? = some y := by rw [hy]; exact List.getElem?_eq_getElem (by omega)
        have c0 := hc i x e1
        have c1 := hc' i y e2
        have E := Lib.hid (And.intro e1 e2)
        clear hc hc' hx hy e1 e2
        by_cases he : x = y
        · subst he
          go_wp2_with fail
          go_big_quiet (fail)
          go_wp2
          go_roundw
          case rel =>
            refine ⟨i + 1, by go_num, hlt, fun j hj => ?_, ext_trans HH.out (ext_drewN (ext_refl wr) nq)⟩
            by_cases e : j = i
            · subst e; rw [E.out.1, E.out.2]
            · exact HJ.out j (by omega)
          case measure => simp [intOf]; omega
        · have hf : decide (A = B) = false := by
            rw [decide_eq_false_iff_not]
            intro e
            have := E.out
            rw [e, this.2] at this
            exact he (by simpa using this.1.symm)
          have HF := Lib.hid hf
          clear hf
          go_wp2_with fail
          go_big_quiet (fail)
          go_wp2
          go_ret
          rw [HF.out]
          exact ⟨rfl, ext_trans HH.out (ext_drewN (ext_refl wr) nq)⟩
      · have hik : i = A.length := by omega
        have ht : decide (A = B) = true := by
          rw [decide_eq_true_iff]
          subst hik
          exact take_eq_all hnn HJ.out
        have HT := Lib.hid ht
        subst hik
        clear ht
        go_wp2
        go_ret
        rw [HT.out]
        exact ⟨rfl, HH.out⟩
  · have hf : decide (A = B) = false := by
      rw [decide_eq_false_iff_not]
      intro e
      exact hnn (by rw [e])
    have HF := Lib.hid hf
    clear hf
    go_enter Try.func13, Try.ntmps13
    go_wp2
    go_ret
    rw [HF.out]
    exact ⟨rfl, by (repeat (first | exact ext_refl _ | assumption | (refine ext_alloc ?_ _) | (refine ext_drewN ?_ _) | refine ext_drew ?_ | (refine ext_set (by first | (simp; done) | (simp; omega)) _ ?_) | (refine ext_trans ?_ (by assumption))))⟩

end Go.Proofs.Ytklfccdjmlmmgaa
