/- A part of the proof. -/
import Derived.Test.YtklgoajgchfmeaaDoorKf
import Derived.Test.YtklgoajgchfmeaaDoorKh
import Derived.Test.YtklgoajgchfmeaaDoorTxE
set_option linter.unusedVariables false
set_option linter.unusedSimpArgs false
namespace Go.Proofs.YtklgoajgchfmeaaDoor
open Go.RowKit Go.Deep
set_option maxRecDepth 100000
theorem right_op {op : Int} {v : Val} {rel col n : Int} {s : ByteArray} {l : List Ex} (h : rightE (.mk op v rel col n s l) = true) : headOk op v rel col n s l.length = true ∧ ∀ y ∈ l, rightE y = true := by
  obtain ⟨h1, h2, h3⟩ := right_iff8.1 h
  rw [Ex.okAll, Bool.and_eq_true] at h1
  rw [Ex.deep] at h2
  rw [Ex.count] at h3
  refine ⟨h1.1, fun y hy => right_iff8.2 ?_⟩
  obtain ⟨i, hi, he⟩ := List.getElem_of_mem hy
  have hg : l[i]? = some y := by rw [List.getElem?_eq_getElem hi, he]
  have h4 := countL_step hg
  have h5 := countL_le l (i + 1)
  have h6 := deepL_mem hg
  exact ⟨okL_all h1.2 hg, by omega, by omega⟩
set_option maxHeartbeats 4000000 in
theorem text_any (x : Ex) (cs : List Value) (w : World) (hx : ExM w x cs) (hG : GE w) (hr : rightE x = true) : Calls Tryd.prog 40 #[.agg cs.toArray] w fun e w' => e = .returned (.string (bsB x.print)) ∧ Below w.heap.size w w' := by
  have HX := Lib.hid hx
  have HG := Lib.hid hG
  have HT := Lib.hid (show textR x = (x.print, 0) by unfold textR; rw [if_pos hr])
  obtain ⟨op, v, rel, col, n, s, l⟩ := x
  rw [ExM.iff] at hx
  obtain ⟨-, q, c, rfl, -, -⟩ := hx
  obtain ⟨len, hlen⟩ : ∃ len, len = l.length := ⟨_, rfl⟩
  rw [← hlen] at HX ⊢
  clear hlen hr
  have E0 := EB.new w op v rel col n s q len c 26
  have B0 : Below w.heap.size w (w.alloc (.cells (exCells op v rel col n s q len c).toArray 26)) := ext_alloc (ext_refl _) _
  obtain ⟨W, hW⟩ : ∃ W, W = w.alloc (.cells (exCells op v rel col n s q len c).toArray 26) := ⟨_, rfl⟩
  rw [← hW] at E0 B0
  go_enter Tryd.func40, Tryd.ntmps40
  go_upto_region 1 with fail
  rw [← hW]
  clear hW
  obtain ⟨g, hg⟩ : ∃ g, g = w.heap.size := ⟨_, rfl⟩
  have HB := Lib.hid B0
  have HGW := Lib.hid hg
  rw [← hg] at E0
  rw [← hg]
  clear B0 hg
  have HE := Lib.hid E0
  obtain ⟨lt, c0, c1, c2, c3, c4, c5, c6, c7, c8⟩ := E0
  go_wp2_with fail
  refine (dtext_any _ _ W (ExM.ext HB.out _ _ HX.out) (HG.out.on HB.out)).mono ?_
  rintro e X ⟨rfl, hbX⟩
  have HBX := Lib.hid (HB.out.trans (hbX.mono HB.out.size))
  obtain ⟨Z, hZ⟩ : ∃ Z, Z = bsB (Ex.mk op v rel col n s l).print := ⟨_, rfl⟩
  have HZ := Lib.hid hZ
  rw [HT.out]
  rw [← hZ]
  clear hbX hZ lt c0 c1 c2 c3 c4 c5 c6 c7 c8
  go_wp2_with fail
  refine bodyPost_ret (v := .string Z) (by simp [results, Tryd.results40, go_sem]) rfl ⟨by rw [HZ.out], HBX.out⟩
theorem OwnX.two {w : World} {b : Nat} {P : Nat → Prop} {v : Value} {y0 y1 : Ex} (h : OwnX w b P v [y0, y1]) : ∃ g c r0 r1, v = .slice (some ⟨g, 0, none⟩) 2 c ∧ b ≤ g ∧ g < w.heap.size ∧ OwnE w b (.slice (some ⟨g, 0, none⟩) 2 c) [r0, r1] ∧
    ExMP w (fun k => P k ∧ k ≠ g) y0 r0.cells ∧ ExMP w (fun k => P k ∧ k ≠ g) y1 r1.cells := by
  obtain ⟨K, h1, h2, h3⟩ := h
  match K, h2 with
  | [r0, r1], _ =>
    obtain ⟨q, c, e, -, -, hq, hA⟩ := OwnF.arr RawE.cells_len h1
    obtain ⟨g, o, rfl, -, -, -⟩ := hA 0 (by simp)
    obtain ⟨rfl, hbg, hg, -⟩ := hq g o rfl
    have e' : v = .slice (some ⟨g, 0, none⟩) 2 c := e
    subst e'
    have hP : ∀ k, (P k ∧ (Value.slice (some ⟨g, 0, none⟩) 2 c).ownBlock ≠ some k) → P k ∧ k ≠ g := fun k hk => ⟨hk.1, fun e => hk.2 (by rw [e]; rfl)⟩
    exact ⟨g, c, r0, r1, rfl, hbg, hg, h1, ExMP.on (Nat.le_refl _) (fun _ _ _ => rfl) (fun k hk _ => hP k hk) _ _ (h3 0 r0 y0 rfl rfl), ExMP.on (Nat.le_refl _) (fun _ _ _ => rfl) (fun k hk _ => hP k hk) _ _ (h3 1 r1 y1 rfl rfl)⟩
theorem OwnX.swapped {w w' : World} {b g c : Nat} {P : Nat → Prop} {y0 y1 : Ex} {r0 r1 : RawE} (h0 : ExMP w (fun k => P k ∧ k ≠ g) y0 r0.cells) (h1 : ExMP w (fun k => P k ∧ k ≠ g) y1 r1.cells) (hO : OwnE w' b (.slice (some ⟨g, 0, none⟩) 2 c) [r1, r0]) (ho : Out (fun k => k = g) w w') : OwnX w' b P (.slice (some ⟨g, 0, none⟩) 2 c) [y1, y0] := by
  have hP : ∀ (y : Ex) (cs : List Value), ExMP w (fun k => P k ∧ k ≠ g) y cs → ExMP w' (fun k => P k ∧ (Value.slice (some ⟨g, 0, none⟩) 2 c).ownBlock ≠ some k) y cs := fun y cs hy => ExMP.on ho.size (fun k hk hkw => ho.block k hkw hk.2) (fun k hk _ => ⟨hk.1, fun e => hk.2 (by cases e; rfl)⟩) y cs hy
  refine ⟨[r1, r0], hO, rfl, fun j r x hr hx => ?_⟩
  match j, hr, hx with
  | 0, hr, hx => cases hr; cases hx; exact hP _ _ h1
  | 1, hr, hx => cases hr; cases hx; exact hP _ _ h0
end Go.Proofs.YtklgoajgchfmeaaDoor
