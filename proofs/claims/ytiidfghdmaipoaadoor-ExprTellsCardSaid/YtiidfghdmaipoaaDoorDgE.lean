/- The law's exprs: two lists of expressions, told apart by the reference's text. -/
import Derived.Test.YtiidfghdmaipoaaDoorDgC
namespace Go.Proofs.YtiidfghdmaipoaaDoor
open Go.RowKit Go.Deep
set_option maxRecDepth 100000

set_option maxHeartbeats 4000000 in
theorem lawexprs_any (L : List Ex) (qa qb : Option Addr) (ca cb : Nat) (w : World) (hlm : L.length ≤ 9223372036854775807) (hok : ∀ y ∈ L, y.okAll = true ∧ y.count ≤ 200) (ha : ExL w qa 0 L) (hb : ExL w qb 0 L) :
    Calls Tryd.prog 9 #[.slice qa L.length ca, .slice qb L.length cb] w fun e w' => e = .returned (.bool true) ∧ Below w.heap.size w w' := by
  have HA := Lib.hid ha
  have HB := Lib.hid hb
  have HK := Lib.hid hok
  obtain ⟨len, hlen⟩ : ∃ len, len = L.length := ⟨_, rfl⟩
  rw [← hlen] at hlm ⊢
  have HLEN := Lib.hid hlen
  clear hlen ha hb hok
  go_enter Tryd.func9, Tryd.ntmps9
  have bne : ((len : Int) != (len : Int)) = false := by simp
  go_wp2_with fail
  go_loopw [5] (fun vi wr => ∃ i : Nat, vi = .int .i64 i ∧ i ≤ len ∧ Hid (Below w.heap.size w wr)) (fun vi _ => len - (intOf vi).toNat)
  case atStart => exact ⟨0, rfl, by omega, Below.refl _ _⟩
  case round =>
    obtain ⟨i, rfl, hi, hE⟩ := hrel
    obtain ⟨V, hV⟩ : ∃ V, V = wr := ⟨_, rfl⟩
    rw [← hV] at hE
    rw [← hV]
    have HBV := Lib.hid hE.out
    clear hV hE
    by_cases hlt : i < len
    · obtain ⟨y, hy⟩ : ∃ y, L[i]? = some y := ⟨_, List.getElem?_eq_getElem (by rw [← HLEN.out]; exact hlt)⟩
      obtain ⟨k1, k2⟩ := HK.out y (List.mem_of_getElem? hy)
      have HP := Lib.hid (rprint_any y.deep y (Nat.le_refl _) k1 k2)
      have HY := Lib.hid hy
      clear k1 k2
      have hl_ := ExL.at_ (ExL.ext HBV.out _ _ _ HA.out) hy
      obtain ⟨g0, off0, cs0, hq0, hg0, hx0, hcell⟩ := hl_
      subst hq0
      have HX0 := Lib.hid hx0
      obtain ⟨P, hP⟩ : ∃ P, P = bsB y.print := ⟨_, rfl⟩
      rw [← hP] at HP
      clear hP hy
      obtain ⟨op1, v1, rel1, col1, n1, s1, l1⟩ := y
      rw [ExM.iff] at hx0
      obtain ⟨-, qq0, cc0, rfl, -, -⟩ := hx0
      have f0 := hcell 0 _ rfl
      have f1 := hcell 1 _ rfl
      have f2 := hcell 2 _ rfl
      have f3 := hcell 3 _ rfl
      have f4 := hcell 4 _ rfl
      have f5 := hcell 5 _ rfl
      have f6 := hcell 6 _ rfl
      have f7 := hcell 7 _ rfl
      have f8 := hcell 8 _ rfl
      simp only [Nat.zero_add, Nat.add_zero] at f0 f1 f2 f3 f4 f5 f6 f7 f8
      clear hcell
      go_wp2_with fail
      refine (HP.out _ V HX0.out).mono ?_
      rintro e Y ⟨rfl, hb⟩
      have HBY := Lib.hid (HBV.out.trans (hb.mono HBV.out.size))
      clear hb f0 f1 f2 f3 f4 f5 f6 f7 f8
      have hl_ := ExL.at_ (ExL.ext HBY.out _ _ _ HB.out) HY.out
      obtain ⟨g1, off1, cs1, hq1, hg1, hx1, hcell⟩ := hl_
      subst hq1
      have HX1 := Lib.hid hx1
      rw [ExM.iff] at hx1
      obtain ⟨-, qq1, cc1, rfl, -, -⟩ := hx1
      have f0 := hcell 0 _ rfl
      have f1 := hcell 1 _ rfl
      have f2 := hcell 2 _ rfl
      have f3 := hcell 3 _ rfl
      have f4 := hcell 4 _ rfl
      have f5 := hcell 5 _ rfl
      have f6 := hcell 6 _ rfl
      have f7 := hcell 7 _ rfl
      have f8 := hcell 8 _ rfl
      simp only [Nat.zero_add, Nat.add_zero] at f0 f1 f2 f3 f4 f5 f6 f7 f8
      clear hcell
      go_wp2_with fail
      refine (HP.out _ Y HX1.out).mono ?_
      rintro e Z ⟨rfl, hb⟩
      have HBZ := Lib.hid (HBY.out.trans (hb.mono HBY.out.size))
      clear hb f0 f1 f2 f3 f4 f5 f6 f7 f8
      have bp : (P.toList != P.toList) = false := by simp
      go_wp2_with fail
      go_roundw
      case rel => exact ⟨i + 1, by go_num, hlt, HBZ.out⟩
      case measure => simp [intOf] <;> omega
    · go_wp2_with fail
      refine bodyPost_ret (v := .bool true) (by simp [results, Tryd.results9, go_sem]) rfl ⟨rfl, HBV.out⟩

end Go.Proofs.YtiidfghdmaipoaaDoor
