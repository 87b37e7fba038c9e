/- The developers' Right. -/
import Derived.Test.YthdnbcdcfaocmaaDoorDvB
import Derived.Laws.EntriesVeiled
namespace Go.Proofs.YthdnbcdcfaocmaaDoor
open Go.RowKit
set_option maxRecDepth 100000

theorem deepL_of_mem : ∀ {l : List Ex} {y : Ex}, y ∈ l → y.deep ≤ deepL l
  | x :: l, y, h => by
    rw [deepL]
    rcases List.mem_cons.1 h with rfl | h
    · omega
    · have := deepL_of_mem h
      omega
theorem rightC_any : ∀ (k : Nat) (x : Ex), x.deep ≤ k → RightC x
  | 0, x, h => absurd (deep_pos x) (by omega)
  | k + 1, .mk op v rel col n s l, h => rightC_mk op v rel col n s l fun y hy => rightC_any k y (by rw [Ex.deep] at h; have := deepL_of_mem hy; omega)
theorem rgt_right (x : Ex) : rgt 1 200 x = rightE x := by
  unfold rgt rightE sizesE
  rw [Bool.eq_iff_iff]
  simp only [Bool.and_eq_true, decide_eq_true_eq]
  constructor
  · rintro ⟨⟨h1, h2⟩, h3⟩
    rw [if_pos ⟨h1, by omega, h3⟩]; rfl
  · intro h
    split at h
    · rename_i h1
      exact ⟨⟨h1.1, by omega⟩, h1.2.2⟩
    · cases h

set_option maxHeartbeats 4000000 in
theorem dright_any (x : Ex) (cs : List Value) (w : World) (hx : ExM w x cs) (hG : GE w) : Calls Tryd.prog 17 #[.agg cs.toArray] w fun e w' => e = .returned (.bool (rightE x)) ∧ Below w.heap.size w w' := by
  have HX := Lib.hid hx
  have HC := Lib.hid (rightC_any _ x (Nat.le_refl _))
  have HG := Lib.hid hG
  obtain ⟨op, v, rel, col, n, s, l⟩ := x
  rw [ExM.iff] at hx
  obtain ⟨-, q, c, rfl, -, -⟩ := hx
  obtain ⟨len, hlen⟩ : ∃ len, len = l.length := ⟨_, rfl⟩
  rw [← hlen] at HX ⊢
  clear hlen hG
  have E0 := EB.new w op v rel col n s q len c 26
  have B0 : Below w.heap.size w (w.alloc (.cells (exCells op v rel col n s q len c).toArray 26)) := ext_alloc (ext_refl _) _
  obtain ⟨W, hW⟩ : ∃ W, W = w.alloc (.cells (exCells op v rel col n s q len c).toArray 26) := ⟨_, rfl⟩
  rw [← hW] at E0 B0
  go_enter Tryd.func17, Tryd.ntmps17
  go_upto_region 1 with fail
  rw [← hW]
  clear hW
  obtain ⟨g, hg⟩ : ∃ g, g = w.heap.size := ⟨_, rfl⟩
  have HB := Lib.hid B0
  have HGW := Lib.hid hg
  rw [← hg] at E0
  rw [← hg]
  clear B0 hg
  have HE := Lib.hid E0
  obtain ⟨lt, c0, c1, c2, c3, c4, c5, c6, c7, c8⟩ := E0
  have HW := HG.out.on HB.out
  go_upto_region 4 with fail
  obtain ⟨A, hA⟩ : ∃ A, A = W.heap.size := ⟨_, rfl⟩
  obtain ⟨V, hV⟩ : ∃ V, V = (W.alloc (.cells #[.int .i64 200] 3)).alloc (.cells #[.func (.func 43) #[] #[.pointer (some ⟨W.heap.size, 0, none⟩), .pointer (some ⟨W.heap.size + 1, 0, none⟩)]] 65) := ⟨_, rfl⟩
  rw [← hV]
  have B1 : Below W.heap.size W V := by rw [hV]; (repeat (first | exact ext_refl _ | assumption | (refine ext_alloc ?_ _) | (refine ext_drewN ?_ _) | refine ext_drew ?_ | (refine ext_set (by first | (simp; done) | (simp; omega)) _ ?_) | (refine ext_trans ?_ (by assumption))))
  have EV := HE.out.on B1
  have hR : RC V A (A + 1) 200 := by
    refine ⟨?_, ?_, ?_, ?_, ?_, by omega, by have := HW.size; omega, Nat.le_refl _, HW.on B1⟩
    · rw [hV, hA]; simp [go_sem]
    · intro o; rw [hV, hA]; simp [go_sem]
    · rw [hV, hA]; simp [go_sem]
    · rw [hV, hA]; simp
    · rw [hV, hA]; simp
  have HBV := Lib.hid (HB.out.trans (B1.mono HB.out.size))
  have hAw : w.heap.size ≤ A := by rw [hA]; exact HB.out.size
  have HRV := Lib.hid hR
  have cR := hR.cR
  have lR := hR.lR
  rw [← hA]
  have HAw := Lib.hid hAw
  clear hV B1 hR HB HW hA hAw c0 c1 c2 c3 c4 c5 c6 c7 c8 lt
  obtain ⟨lt, c0, c1, c2, c3, c4, c5, c6, c7, c8⟩ := EV
  go_wp2_with fail
  refine (HC.out w V _ A (A + 1) 1 200 1 HX.out HBV.out HAw.out HRV.out rfl (by omega)).mono ?_
  rintro e Y ⟨m, he, hRY, -, ho⟩
  rw [rgt_right] at he
  have HBY := Lib.hid (HBV.out.trans (ho.below HBV.out.size (fun _ e => e ▸ HAw.out)))
  obtain ⟨b, hb⟩ : ∃ b, b = rightE (Ex.mk op v rel col n s l) := ⟨_, rfl⟩
  rw [← hb] at he
  have HQ := Lib.hid hb
  clear hb hRY ho c0 c1 c2 c3 c4 c5 c6 c7 c8 lt cR lR
  subst he
  go_wp2_with fail
  refine bodyPost_ret (v := .bool b) (by simp [results, Tryd.results17, go_sem]) rfl ⟨by rw [HQ.out], HBY.out⟩

end Go.Proofs.YthdnbcdcfaocmaaDoor
