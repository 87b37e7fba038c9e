/- An argument that is a list of numbers, opened. -/
import Derived.Test.YtklfccdjmlmmgaaFrame
import Derived.Test.YtklfccdjmlmmgaaPkO
import Derived.Deep.Slices
import Derived.SizedLaws
namespace Go.Proofs.Ytklfccdjmlmmgaa
open Go.ChangeShapes Go.WideShapes Go.ChangeAt Go.RowKit Go.Joins Go.Deep

theorem addr_cell_i {W : World} {a : Addr} {v : Value} (h : W.cell? a = some v) : a = ⟨a.block, a.off, none⟩ ∧ a.block < W.heap.size := by
  refine ⟨?_, World.block_lt_of_cell? W a (by rw [h])⟩
  obtain ⟨b, o, s⟩ := a
  cases s with
  | none => rfl
  | some k =>
    simp only [World.cell?] at h
    split at h <;> simp at h

section
variable {H : Type} {enc : TypeId × Value → H}

theorem open_ints {W : World} {spare : Nat → Bool} {r : Reach} {b0 base : Nat} {v : Value} {d : DataW H} {p : List MemPlace} (hv : Value.okWide Try.prog W r b0 22 v) (h : DataW.Trod enc Try.prog W base spare true 22 v d p) :
    ∃ (q : Option Addr) (cap : Nat) (L : List Int), v = .slice q L.length cap ∧ L.length ≤ cap ∧ cap ≤ 9223372036854775807 ∧ SrcI W W.heap.size q L ∧ Fit L ∧ (d = .nil ∧ L.length = 0 ∨ ∃ es sp, d = .slice es sp ∧ es.length = L.length) := by
  have hC : Try.prog.cellsOf 3 = 1 := by kernel_rfl
  obtain ⟨a0, len, cap, rfl⟩ := okWide_slice Try.underlying22 hv
  obtain ⟨fuel, hf⟩ := h
  rcases open_slice1 Try.underlying22 hC hf with ⟨hc, hx⟩ | ⟨a, len', cap', m, n, V, D, Pl, hc, hb, hl, hm, hmm, hx, hi⟩
  · simp [Value.cells] at hc
    obtain ⟨rfl, rfl, rfl⟩ := hc
    simp only [Prod.mk.injEq] at hx
    exact ⟨none, 0, [], rfl, Nat.le_refl _, by omega, fun k hk => absurd hk (Nat.not_lt_zero _), fun x hx => absurd hx (by simp), .inl ⟨hx.1, rfl⟩⟩
  · simp [Value.cells] at hc
    obtain ⟨rfl, rfl, rfl⟩ := hc
    have hlm : len ≤ m := by rw [hmm]; split <;> omega
    simp only [Prod.mk.injEq] at hx
    have each : ∀ i, i < len → ∃ z : Int, V i = .int .i64 z ∧ (-9223372036854775808 ≤ z ∧ z ≤ 9223372036854775807) := by
      intro i hil
      obtain ⟨h1, h2⟩ := hi i (by omega)
      obtain ⟨z, h', _, hs⟩ := DataW.trod_int Try.underlying3 h2
      exact ⟨z, by simpa using h', by simpa [Lit.wf, IntKind.min, IntKind.signed, IntKind.bits] using hs⟩
    obtain ⟨T, hT⟩ := choose_lt each
    have hlen : ((List.range len).map T).length = len := by simp
    refine ⟨some a, cap, (List.range len).map T, by rw [hlen], by rw [hlen]; exact hl, by unfold maxLen at hm; omega, fun k hk => ?_, fun x hx => ?_, .inr ⟨_, _, hx.1, by simp⟩⟩
    · rw [hlen] at hk
      obtain ⟨ha, hlt⟩ := addr_cell_i (show W.cell? a = some (V 0) by
        have c := (hi 0 (by omega)).1
        rw [Addr.add, if_pos rfl] at c
        exact c)
      refine ⟨a.block, a.off, by rw [← ha], hlt, fun j u hu => ?_⟩
      have hj : j < len := by
        rcases Nat.lt_or_ge j len with h | h
        · exact h
        · rw [List.getElem?_eq_none (by rw [hlen]; exact h)] at hu; cases hu
      have c := (hi j (by omega)).1
      rw [ha, addr_more_i, (hT j hj).1] at c
      have : T j = u := by simpa [hj] using hu
      rw [← this]
      exact c
    · obtain ⟨j, hj, rfl⟩ := List.mem_map.1 hx
      exact (hT j (List.mem_range.1 hj)).2
theorem ints_reach {d : DataW H} {n : Nat} (td : d = .nil ∧ n = 0 ∨ ∃ es sp, d = .slice es sp ∧ es.length = n) (hz : ∀ m ∈ d.weights Try.prog 22, m ≤ reachBytes) : n * 8 ≤ 140737488355328 := by
  have hB : Try.prog.bytesOf 3 = 8 := by kernel_rfl
  rcases td with ⟨_, rfl⟩ | ⟨es, sp, rfl, rfl⟩
  · omega
  · have hw := hz ((es.length + sp.length) * Try.prog.bytesOf 3) (by simp [DataW.weights, Try.underlying22])
    rw [hB] at hw
    unfold reachBytes at hw
    omega
end
theorem of_inR {z : Int} (h : inR z = true) : -9223372036854775808 ≤ z ∧ z ≤ 9223372036854775807 := of_decide_eq_true h

end Go.Proofs.Ytklfccdjmlmmgaa
