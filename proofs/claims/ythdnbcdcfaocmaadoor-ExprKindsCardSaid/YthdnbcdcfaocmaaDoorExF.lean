/- The reference: two expressions, part by part (same): where the heads differ. -/
import Derived.Test.YthdnbcdcfaocmaaDoorExE
namespace Go.Proofs.YthdnbcdcfaocmaaDoor
open Go.RowKit
set_option maxRecDepth 100000

set_option maxHeartbeats 8000000 in
theorem rsame_head (opa : Int) (va : Val) (rela cola na : Int) (sa : ByteArray) (qa : Option Addr) (lena ca : Nat) (opb : Int) (vb : Val) (relb colb nb : Int) (sb : ByteArray) (qb : Option Addr) (lenb cb : Nat) (w : World)
    (hne : opa ≠ opb ∨ (va.k == vb.k && va.n == vb.n && va.s.toList == vb.s.toList) = false ∨ rela ≠ relb ∨ cola ≠ colb ∨ na ≠ nb ∨ lena ≠ lenb) :
    Calls Tryd.prog 48 #[.agg (exCells opa va rela cola na sa qa lena ca).toArray, .agg (exCells opb vb relb colb nb sb qb lenb cb).toArray] w fun e w' => e = .returned (.bool false) ∧ Below w.heap.size w w' := by
  have hne := Lib.hid hne
  have A0 := EB.new w opa va rela cola na sa qa lena ca 26
  have B0 : Below w.heap.size w (w.alloc (.cells (exCells opa va rela cola na sa qa lena ca).toArray 26)) := ext_alloc (ext_refl _) _
  obtain ⟨V, hV⟩ : ∃ V, V = w.alloc (.cells (exCells opa va rela cola na sa qa lena ca).toArray 26) := ⟨_, rfl⟩
  rw [← hV] at A0 B0
  have A1 := EB.new V opb vb relb colb nb sb qb lenb cb 26
  have B1 : Below V.heap.size V (V.alloc (.cells (exCells opb vb relb colb nb sb qb lenb cb).toArray 26)) := ext_alloc (ext_refl _) _
  obtain ⟨W, hW⟩ : ∃ W, W = V.alloc (.cells (exCells opb vb relb colb nb sb qb lenb cb).toArray 26) := ⟨_, rfl⟩
  rw [← hW] at A1 B1
  have A2 := A0.on B1
  have HB := Lib.hid (B0.trans (B1.mono B0.size))
  have hz : V.heap.size = w.heap.size + 1 := by rw [hV]; simp
  have hn := Tryd.neqVal5 va vb
  clear A0 B0 B1
  go_enter Tryd.func48, Tryd.ntmps48
  go_upto_region 1 with fail
  rw [← hV, ← hW]
  rw [hz] at A1
  clear hV hW hz V
  obtain ⟨g, hg⟩ : ∃ g, g = w.heap.size := ⟨_, rfl⟩
  rw [← hg] at A1 A2
  rw [← hg]
  clear hg
  obtain ⟨lt, c0, c1, c2, c3, c4, c5, c6, c7, c8⟩ := A2
  obtain ⟨lt', d0, d1, d2, d3, d4, d5, d6, d7, d8⟩ := A1
  rcases Classical.em (opa = opb) with eop | eop
  · have HEop := Lib.hid eop
    have ropa : (opa != opb) = false := by rw [bne, beq_iff_eq.mpr eop]; rfl
    clear eop
    cases e2 : (va.k == vb.k && va.n == vb.n && va.s.toList == vb.s.toList)
    · clear hne
      rw [e2] at hn
      clear e2
      go_wp2_with fail
      refine bodyPost_ret (v := .bool false) (by simp [results, Tryd.results48, go_sem]) rfl ⟨rfl, HB.out⟩
    · rw [e2] at hn
      have HE2 := Lib.hid e2
      clear e2
      rcases Classical.em (rela = relb) with erel | erel
      · have HErel := Lib.hid erel
        have rrela : (rela != relb) = false := by rw [bne, beq_iff_eq.mpr erel]; rfl
        clear erel
        rcases Classical.em (cola = colb) with ecol | ecol
        · have HEcol := Lib.hid ecol
          have rcola : (cola != colb) = false := by rw [bne, beq_iff_eq.mpr ecol]; rfl
          clear ecol
          rcases Classical.em (na = nb) with en | en
          · have HEn := Lib.hid en
            have rna : (na != nb) = false := by rw [bne, beq_iff_eq.mpr en]; rfl
            clear en
            have elen : lena ≠ lenb := by
              rcases hne.out with h | h | h | h | h | h
              · exact absurd HEop.out h
              · rw [HE2.out] at h; cases h
              · exact absurd HErel.out h
              · exact absurd HEcol.out h
              · exact absurd HEn.out h
              · exact h
            have rlen : ((lena : Int) != (lenb : Int)) = true := by rw [bne, beq_eq_false_iff_ne.mpr (by omega)]; rfl
            clear hne elen
            go_wp2_with fail
            refine bodyPost_ret (v := .bool false) (by simp [results, Tryd.results48, go_sem]) rfl ⟨rfl, HB.out⟩
          · have rna : (na != nb) = true := by rw [bne, beq_eq_false_iff_ne.mpr en]; rfl
            clear en hne
            go_wp2_with fail
            refine bodyPost_ret (v := .bool false) (by simp [results, Tryd.results48, go_sem]) rfl ⟨rfl, HB.out⟩
        · have rcola : (cola != colb) = true := by rw [bne, beq_eq_false_iff_ne.mpr ecol]; rfl
          clear ecol hne
          go_wp2_with fail
          refine bodyPost_ret (v := .bool false) (by simp [results, Tryd.results48, go_sem]) rfl ⟨rfl, HB.out⟩
      · have rrela : (rela != relb) = true := by rw [bne, beq_eq_false_iff_ne.mpr erel]; rfl
        clear erel hne
        go_wp2_with fail
        refine bodyPost_ret (v := .bool false) (by simp [results, Tryd.results48, go_sem]) rfl ⟨rfl, HB.out⟩
  · have ropa : (opa != opb) = true := by rw [bne, beq_eq_false_iff_ne.mpr eop]; rfl
    clear eop hne
    go_wp2_with fail
    refine bodyPost_ret (v := .bool false) (by simp [results, Tryd.results48, go_sem]) rfl ⟨rfl, HB.out⟩

end Go.Proofs.YthdnbcdcfaocmaaDoor
