/- A part of the proof. -/
import Derived.Test.YtklgoajgchfmeaaDoorKk
import Derived.Test.YtklgoajgchfmeaaDoorKc
import Derived.Deep.Upon
import Derived.Maps.AppendAt
import Derived.RegionTactic
import Derived.Deep.Slices
set_option linter.unusedVariables false
set_option linter.unusedSimpArgs false
namespace Go.Proofs.YtklgoajgchfmeaaDoor
open Go.RowKit Go.Deep
set_option maxRecDepth 100000
def Ex.inHead : Ex → Prop
  | .mk op _ rel col n _ _ => inR op = true ∧ inR rel = true ∧ inR col = true ∧ inR n = true
mutual
def Ex.inAll : Ex → Prop
  | .mk op v rel col n s l => Ex.inHead (.mk op v rel col n s l) ∧ inAllL l
def inAllL : List Ex → Prop
  | [] => True
  | x :: r => x.inAll ∧ inAllL r
end
theorem inAllL_of : ∀ {l : List Ex} {y : Ex}, inAllL l → y ∈ l → y.inAll
  | x :: r, y, h, hy => by
    rw [inAllL] at h
    rcases List.mem_cons.1 hy with rfl | hy
    · exact h.1
    · exact inAllL_of h.2 hy
theorem printL_mem {l : List Ex} {y : Ex} (h : y ∈ l) : y.print.length < (printL l).length := by
  obtain ⟨i, hi, he⟩ := List.getElem_of_mem h
  have h1 := printL_step (l := l) (i := i) (x := y) (by rw [List.getElem?_eq_getElem hi, he])
  have h2 := printL_take_le l (i + 1)
  rw [h1] at h2
  simp at h2
  omega
theorem printL_many : ∀ l : List Ex, l.length ≤ (printL l).length
  | [] => Nat.le_refl _
  | x :: r => by
    have h := printL_many r
    rw [printL]
    simp
    omega
theorem print_opW {op : Int} {v : Val} {rel col n : Int} {s : ByteArray} {l : List Ex} (h1 : op ≠ 1) (h2 : op ≠ 2) (h3 : op ≠ 3) : (Ex.mk op v rel col n s l).print = 40 :: Lib.itoa op ++ printL l ++ [41] := by rw [Ex.print, if_neg h1, if_neg h2, if_neg h3]
set_option maxHeartbeats 4000000 in
theorem rprint_const0 (m : Int) (t : ByteArray) (rel col n : Int) (s : ByteArray) (q : Option Addr) (len c : Nat) (w : World) (hv : inR m = true) :
    Calls Tryd.prog 9 #[.agg (exCells 1 ⟨0, m, t⟩ rel col n s q len c).toArray] w fun e w' => e = .returned (.string (bsB (printV ⟨0, m, t⟩))) ∧ Below w.heap.size w w' := by
  have HV := Lib.hid hv
  clear hv
  obtain ⟨v, hvv⟩ : ∃ v : Val, v = ⟨0, m, t⟩ := ⟨_, rfl⟩
  obtain ⟨op, hop⟩ : ∃ k : Int, k = 1 := ⟨_, rfl⟩
  rw [← hvv, ← hop]
  have HVV := Lib.hid hvv
  have HOP := Lib.hid hop
  clear hvv hop
  have E0 := EB.new w op v rel col n s q len c 26
  have B0 : Below w.heap.size w (w.alloc (.cells (exCells op v rel col n s q len c).toArray 26)) := ext_alloc (ext_refl _) _
  obtain ⟨W, hW⟩ : ∃ W, W = w.alloc (.cells (exCells op v rel col n s q len c).toArray 26) := ⟨_, rfl⟩
  rw [← hW] at E0 B0
  go_enter Tryd.func9, Tryd.ntmps9
  go_upto_region 1 with fail
  rw [← hW]
  clear hW
  obtain ⟨g, hg⟩ : ∃ g, g = w.heap.size := ⟨_, rfl⟩
  have HB := Lib.hid B0
  have HGW := Lib.hid hg
  rw [← hg] at E0
  rw [← hg]
  clear B0 hg
  have HE := Lib.hid E0
  obtain ⟨lt, c0, c1, c2, c3, c4, c5, c6, c7, c8⟩ := E0
  obtain rfl := HVV.out
  obtain rfl := HOP.out
  have hv := HV.out
  simp only at c1 c2 c3
  have i1 := (inR_iff.1 hv).1
  have i2 := (inR_iff.1 hv).2
  go_wp2_with fail
  refine bodyPost_ret (v := .string ⟨#[78]⟩) (by simp [results, Tryd.results9, go_sem]) rfl ⟨by unfold printV; simp, HB.out⟩
set_option maxHeartbeats 4000000 in
theorem rprint_const1 (m : Int) (t : ByteArray) (rel col n : Int) (s : ByteArray) (q : Option Addr) (len c : Nat) (w : World) (hv : inR m = true) :
    Calls Tryd.prog 9 #[.agg (exCells 1 ⟨1, m, t⟩ rel col n s q len c).toArray] w fun e w' => e = .returned (.string (bsB (printV ⟨1, m, t⟩))) ∧ Below w.heap.size w w' := by
  have HV := Lib.hid hv
  clear hv
  obtain ⟨v, hvv⟩ : ∃ v : Val, v = ⟨1, m, t⟩ := ⟨_, rfl⟩
  obtain ⟨op, hop⟩ : ∃ k : Int, k = 1 := ⟨_, rfl⟩
  rw [← hvv, ← hop]
  have HVV := Lib.hid hvv
  have HOP := Lib.hid hop
  clear hvv hop
  have E0 := EB.new w op v rel col n s q len c 26
  have B0 : Below w.heap.size w (w.alloc (.cells (exCells op v rel col n s q len c).toArray 26)) := ext_alloc (ext_refl _) _
  obtain ⟨W, hW⟩ : ∃ W, W = w.alloc (.cells (exCells op v rel col n s q len c).toArray 26) := ⟨_, rfl⟩
  rw [← hW] at E0 B0
  go_enter Tryd.func9, Tryd.ntmps9
  go_upto_region 1 with fail
  rw [← hW]
  clear hW
  obtain ⟨g, hg⟩ : ∃ g, g = w.heap.size := ⟨_, rfl⟩
  have HB := Lib.hid B0
  have HGW := Lib.hid hg
  rw [← hg] at E0
  rw [← hg]
  clear B0 hg
  have HE := Lib.hid E0
  obtain ⟨lt, c0, c1, c2, c3, c4, c5, c6, c7, c8⟩ := E0
  obtain rfl := HVV.out
  obtain rfl := HOP.out
  have hv := HV.out
  simp only at c1 c2 c3
  have i1 := (inR_iff.1 hv).1
  have i2 := (inR_iff.1 hv).2
  have HP := Lib.hid (show printV ⟨1, m, t⟩ = 73 :: Lib.itoa m by unfold printV; simp [*])
  have HI := Lib.hid (fun w => digits_any m i1 i2 w)
  have hl := dgs_le m hv
  obtain ⟨D, hD⟩ : ∃ D, D = dgs m := ⟨_, rfl⟩
  rw [← hD] at hl HI
  have g0 : ¬ 9223372036854775807 < 1 + D.size := by omega
  have HQ := Lib.hid (show (⟨#[73]⟩ : ByteArray) ++ D = bsB (73 :: Lib.itoa m) by rw [hD]; exact cat2 73 m)
  clear hl hD
  go_wp2_with fail
  refine (HI.out _).mono ?_
  rintro e X ⟨rfl, hbX⟩
  have HBX := Lib.hid (HB.out.trans (hbX.mono HB.out.size))
  clear hbX lt c0 c1 c2 c3 c4 c5 c6 c7 c8
  go_wp2_with fail
  refine bodyPost_ret (v := .string (⟨#[73]⟩ ++ D)) (by simp [results, Tryd.results9, go_sem]) rfl ⟨by rw [HQ.out, HP.out], HBX.out⟩
set_option maxHeartbeats 4000000 in
theorem rprint_const2 (m : Int) (t : ByteArray) (rel col n : Int) (s : ByteArray) (q : Option Addr) (len c : Nat) (w : World) (hv : inR m = true) :
    Calls Tryd.prog 9 #[.agg (exCells 1 ⟨2, m, t⟩ rel col n s q len c).toArray] w fun e w' => e = .returned (.string (bsB (printV ⟨2, m, t⟩))) ∧ Below w.heap.size w w' := by
  have HV := Lib.hid hv
  clear hv
  obtain ⟨v, hvv⟩ : ∃ v : Val, v = ⟨2, m, t⟩ := ⟨_, rfl⟩
  obtain ⟨op, hop⟩ : ∃ k : Int, k = 1 := ⟨_, rfl⟩
  rw [← hvv, ← hop]
  have HVV := Lib.hid hvv
  have HOP := Lib.hid hop
  clear hvv hop
  have E0 := EB.new w op v rel col n s q len c 26
  have B0 : Below w.heap.size w (w.alloc (.cells (exCells op v rel col n s q len c).toArray 26)) := ext_alloc (ext_refl _) _
  obtain ⟨W, hW⟩ : ∃ W, W = w.alloc (.cells (exCells op v rel col n s q len c).toArray 26) := ⟨_, rfl⟩
  rw [← hW] at E0 B0
  go_enter Tryd.func9, Tryd.ntmps9
  go_upto_region 1 with fail
  rw [← hW]
  clear hW
  obtain ⟨g, hg⟩ : ∃ g, g = w.heap.size := ⟨_, rfl⟩
  have HB := Lib.hid B0
  have HGW := Lib.hid hg
  rw [← hg] at E0
  rw [← hg]
  clear B0 hg
  have HE := Lib.hid E0
  obtain ⟨lt, c0, c1, c2, c3, c4, c5, c6, c7, c8⟩ := E0
  obtain rfl := HVV.out
  obtain rfl := HOP.out
  have hv := HV.out
  simp only at c1 c2 c3
  have i1 := (inR_iff.1 hv).1
  have i2 := (inR_iff.1 hv).2
  have HP := Lib.hid (show printV ⟨2, m, t⟩ = 66 :: Lib.itoa m by unfold printV; simp [*])
  have HI := Lib.hid (fun w => digits_any m i1 i2 w)
  have hl := dgs_le m hv
  obtain ⟨D, hD⟩ : ∃ D, D = dgs m := ⟨_, rfl⟩
  rw [← hD] at hl HI
  have g0 : ¬ 9223372036854775807 < 1 + D.size := by omega
  have HQ := Lib.hid (show (⟨#[66]⟩ : ByteArray) ++ D = bsB (66 :: Lib.itoa m) by rw [hD]; exact cat2 66 m)
  clear hl hD
  go_wp2_with fail
  refine (HI.out _).mono ?_
  rintro e X ⟨rfl, hbX⟩
  have HBX := Lib.hid (HB.out.trans (hbX.mono HB.out.size))
  clear hbX lt c0 c1 c2 c3 c4 c5 c6 c7 c8
  go_wp2_with fail
  refine bodyPost_ret (v := .string (⟨#[66]⟩ ++ D)) (by simp [results, Tryd.results9, go_sem]) rfl ⟨by rw [HQ.out, HP.out], HBX.out⟩
set_option maxHeartbeats 4000000 in
theorem rprint_const3 (k : Int) (m : Int) (t : ByteArray) (rel col n : Int) (s : ByteArray) (q : Option Addr) (len c : Nat) (w : World) (hv : inR m = true) (h0 : k ≠ 0) (h1 : k ≠ 1) (h2 : k ≠ 2) (ht : t.size ≤ 1000000000000) :
    Calls Tryd.prog 9 #[.agg (exCells 1 ⟨k, m, t⟩ rel col n s q len c).toArray] w fun e w' => e = .returned (.string (bsB (printV ⟨k, m, t⟩))) ∧ Below w.heap.size w w' := by
  have HV := Lib.hid hv
  clear hv
  obtain ⟨v, hvv⟩ : ∃ v : Val, v = ⟨k, m, t⟩ := ⟨_, rfl⟩
  obtain ⟨op, hop⟩ : ∃ k : Int, k = 1 := ⟨_, rfl⟩
  rw [← hvv, ← hop]
  have HVV := Lib.hid hvv
  have HOP := Lib.hid hop
  clear hvv hop
  have E0 := EB.new w op v rel col n s q len c 26
  have B0 : Below w.heap.size w (w.alloc (.cells (exCells op v rel col n s q len c).toArray 26)) := ext_alloc (ext_refl _) _
  obtain ⟨W, hW⟩ : ∃ W, W = w.alloc (.cells (exCells op v rel col n s q len c).toArray 26) := ⟨_, rfl⟩
  rw [← hW] at E0 B0
  go_enter Tryd.func9, Tryd.ntmps9
  go_upto_region 1 with fail
  rw [← hW]
  clear hW
  obtain ⟨g, hg⟩ : ∃ g, g = w.heap.size := ⟨_, rfl⟩
  have HB := Lib.hid B0
  have HGW := Lib.hid hg
  rw [← hg] at E0
  rw [← hg]
  clear B0 hg
  have HE := Lib.hid E0
  obtain ⟨lt, c0, c1, c2, c3, c4, c5, c6, c7, c8⟩ := E0
  obtain rfl := HVV.out
  obtain rfl := HOP.out
  have hv := HV.out
  simp only at c1 c2 c3
  have i1 := (inR_iff.1 hv).1
  have i2 := (inR_iff.1 hv).2
  have b0 : (k == 0) = false := beq_eq_false_iff_ne.2 h0
  have b1 : (k == 1) = false := beq_eq_false_iff_ne.2 h1
  have b2 : (k == 2) = false := beq_eq_false_iff_ne.2 h2
  have HP := Lib.hid (show printV ⟨k, m, t⟩ = 84 :: Lib.itoa t.size ++ [58] ++ t.data.toList by unfold printV; simp [*])
  have hi : inR (t.size : Int) = true := inR_iff.2 ⟨by omega, by omega⟩
  have hsl := ht
  have HI3 := Lib.hid (fun (x : After W) => calls_after (digits_any t.size (inR_iff.1 hi).1 (inR_iff.1 hi).2 x.W))
  have hl := dgs_le t.size hi
  obtain ⟨D, hD⟩ : ∃ D, D = dgs t.size := ⟨_, rfl⟩
  rw [← hD] at hl HI3
  have g0 : ¬ 9223372036854775807 < 1 + D.size := by omega
  have g1 : ¬ 9223372036854775807 < 1 + D.size + 1 := by omega
  have g2 : ¬ 9223372036854775807 < 1 + D.size + 1 + t.size := by omega
  have HD := Lib.hid (show (⟨#[84]⟩ : ByteArray) ++ D ++ ⟨#[58]⟩ ++ t = bsB (84 :: Lib.itoa t.size ++ [58] ++ t.data.toList) by rw [hD]; exact cat4 84 58 t.size t)
  clear hl hsl hD hi
  go_upto_region 10 with fail
  have r3 := fun (x : After W) => (x.cell g 3 lt).trans c3
  have is := After.some W
  refine wp_region_after (by kernel_rfl) (by kernel_rfl) ?_
  repeat (quiet_step ((go_at_call 22; exact HI3.out _)))
  refine wpQuiet_nil ?_
  intro Wq hw
  obtain ⟨⟨Wq, hbq⟩, rfl⟩ := hw
  go_wp2_with fail
  refine bodyPost_ret (v := .string (⟨#[84]⟩ ++ D ++ ⟨#[58]⟩ ++ t)) (by simp [results, Tryd.results9, go_sem]) rfl ⟨by rw [HP.out, HD.out], HB.out.trans (hbq.mono HB.out.size)⟩
set_option maxHeartbeats 4000000 in
theorem rprint_refW (v : Val) (rel col n : Int) (s : ByteArray) (q : Option Addr) (len c : Nat) (w : World) (i1 : inR rel = true) (i2 : inR col = true) :
    Calls Tryd.prog 9 #[.agg (exCells 2 v rel col n s q len c).toArray] w fun e w' => e = .returned (.string (bsB (82 :: Lib.itoa rel ++ [46] ++ Lib.itoa col))) ∧ Below w.heap.size w w' := by
  obtain ⟨op, hop⟩ : ∃ k : Int, k = 2 := ⟨_, rfl⟩
  rw [← hop]
  have HOP := Lib.hid hop
  clear hop
  have E0 := EB.new w op v rel col n s q len c 26
  have B0 : Below w.heap.size w (w.alloc (.cells (exCells op v rel col n s q len c).toArray 26)) := ext_alloc (ext_refl _) _
  obtain ⟨W, hW⟩ : ∃ W, W = w.alloc (.cells (exCells op v rel col n s q len c).toArray 26) := ⟨_, rfl⟩
  rw [← hW] at E0 B0
  go_enter Tryd.func9, Tryd.ntmps9
  go_upto_region 1 with fail
  rw [← hW]
  clear hW
  obtain ⟨g, hg⟩ : ∃ g, g = w.heap.size := ⟨_, rfl⟩
  have HB := Lib.hid B0
  have HGW := Lib.hid hg
  rw [← hg] at E0
  rw [← hg]
  clear B0 hg
  have HE := Lib.hid E0
  obtain ⟨lt, c0, c1, c2, c3, c4, c5, c6, c7, c8⟩ := E0
  obtain rfl := HOP.out
  have HI1 := Lib.hid (fun (x : After W) => calls_after (digits_any rel (inR_iff.1 i1).1 (inR_iff.1 i1).2 x.W))
  have HI2 := Lib.hid (fun (x : After W) => calls_after (digits_any col (inR_iff.1 i2).1 (inR_iff.1 i2).2 x.W))
  have hl := dgs_le rel i1
  have hl2 := dgs_le col i2
  obtain ⟨D, hD⟩ : ∃ D, D = dgs rel := ⟨_, rfl⟩
  obtain ⟨E, hE⟩ : ∃ E, E = dgs col := ⟨_, rfl⟩
  rw [← hD] at hl HI1
  rw [← hE] at hl2 HI2
  have g0 : ¬ 9223372036854775807 < 1 + D.size := by omega
  have g1 : ¬ 9223372036854775807 < 1 + D.size + 1 := by omega
  have g2 : ¬ 9223372036854775807 < 1 + D.size + 1 + E.size := by omega
  have HQ := Lib.hid (show (⟨#[82]⟩ : ByteArray) ++ D ++ ⟨#[46]⟩ ++ E = bsB (82 :: Lib.itoa rel ++ [46] ++ Lib.itoa col) by rw [hD, hE]; exact cat4 82 46 rel (dgs col))
  have r4 := fun (x : After W) => (x.cell g 4 lt).trans c4
  have r5 := fun (x : After W) => (x.cell g 5 lt).trans c5
  clear i1 i2 hl hl2 hD hE
  go_upto_region 12 with fail
  have is := After.some W
  refine wp_region_after (by kernel_rfl) (by kernel_rfl) ?_
  repeat (quiet_step ((go_at_call 22; first | with_reducible exact HI1.out _ | with_reducible exact HI2.out _)))
  refine wpQuiet_nil ?_
  intro Wq hw
  obtain ⟨⟨Wq, hbq⟩, rfl⟩ := hw
  go_wp2_with fail
  refine bodyPost_ret (v := .string (⟨#[82]⟩ ++ D ++ ⟨#[46]⟩ ++ E)) (by simp [results, Tryd.results9, go_sem]) rfl ⟨by rw [HQ.out]; simp, HB.out.trans (hbq.mono HB.out.size)⟩
set_option maxHeartbeats 4000000 in
theorem rprint_parW (v : Val) (rel col n : Int) (s : ByteArray) (q : Option Addr) (len c : Nat) (w : World) (i1 : inR n = true) :
    Calls Tryd.prog 9 #[.agg (exCells 3 v rel col n s q len c).toArray] w fun e w' => e = .returned (.string (bsB (80 :: Lib.itoa n))) ∧ Below w.heap.size w w' := by
  obtain ⟨op, hop⟩ : ∃ k : Int, k = 3 := ⟨_, rfl⟩
  rw [← hop]
  have HOP := Lib.hid hop
  clear hop
  have E0 := EB.new w op v rel col n s q len c 26
  have B0 : Below w.heap.size w (w.alloc (.cells (exCells op v rel col n s q len c).toArray 26)) := ext_alloc (ext_refl _) _
  obtain ⟨W, hW⟩ : ∃ W, W = w.alloc (.cells (exCells op v rel col n s q len c).toArray 26) := ⟨_, rfl⟩
  rw [← hW] at E0 B0
  go_enter Tryd.func9, Tryd.ntmps9
  go_upto_region 1 with fail
  rw [← hW]
  clear hW
  obtain ⟨g, hg⟩ : ∃ g, g = w.heap.size := ⟨_, rfl⟩
  have HB := Lib.hid B0
  have HGW := Lib.hid hg
  rw [← hg] at E0
  rw [← hg]
  clear B0 hg
  have HE := Lib.hid E0
  obtain ⟨lt, c0, c1, c2, c3, c4, c5, c6, c7, c8⟩ := E0
  obtain rfl := HOP.out
  have HI := Lib.hid (fun w => digits_any n (inR_iff.1 i1).1 (inR_iff.1 i1).2 w)
  have hl := dgs_le n i1
  obtain ⟨D, hD⟩ : ∃ D, D = dgs n := ⟨_, rfl⟩
  rw [← hD] at hl HI
  have g0 : ¬ 9223372036854775807 < 1 + D.size := by omega
  have HQ := Lib.hid (show (⟨#[80]⟩ : ByteArray) ++ D = bsB (80 :: Lib.itoa n) by rw [hD]; exact cat2 80 n)
  clear hl hD
  go_wp2_with fail
  refine (HI.out _).mono ?_
  rintro e X ⟨rfl, hbX⟩
  have HBX := Lib.hid (HB.out.trans (hbX.mono HB.out.size))
  clear hbX lt c0 c1 c2 c3 c4 c5 c6 c7 c8
  go_wp2_with fail
  refine bodyPost_ret (v := .string (⟨#[80]⟩ ++ D)) (by simp [results, Tryd.results9, go_sem]) rfl ⟨by rw [HQ.out], HBX.out⟩
set_option maxHeartbeats 4000000 in
theorem rprint_opW (op : Int) (v : Val) (rel col n : Int) (s : ByteArray) (l : List Ex) (q : Option Addr) (c : Nat) (w : World) (n1 : op ≠ 1) (n2 : op ≠ 2) (n3 : op ≠ 3) (i1 : inR op = true) (hlm : l.length ≤ 1000000000000) (hpl : (printL l).length ≤ 1000000000000) (hl : ExL w q 0 l)
    (IH : ∀ y ∈ l, ∀ (cs : List Value) (w : World), ExM w y cs → Calls Tryd.prog 9 #[.agg cs.toArray] w fun e w' => e = .returned (.string (bsB y.print)) ∧ Below w.heap.size w w') :
    Calls Tryd.prog 9 #[.agg (exCells op v rel col n s q l.length c).toArray] w fun e w' => e = .returned (.string (bsB (Ex.mk op v rel col n s l).print)) ∧ Below w.heap.size w w' := by
  have HL := Lib.hid hl
  have HI := Lib.hid IH
  obtain ⟨len, hlen⟩ : ∃ len, len = l.length := ⟨_, rfl⟩
  rw [← hlen] at hlm ⊢
  have HLEN := Lib.hid hlen
  have HPL := Lib.hid hpl
  have b1 : (op == 1) = false := beq_eq_false_iff_ne.2 n1
  have b2 : (op == 2) = false := beq_eq_false_iff_ne.2 n2
  have b3 : (op == 3) = false := beq_eq_false_iff_ne.2 n3
  have HD := Lib.hid (fun w => digits_any op (inR_iff.1 i1).1 (inR_iff.1 i1).2 w)
  have hdl := dgs_le op i1
  have HPR := Lib.hid (print_opW (v := v) (rel := rel) (col := col) (n := n) (s := s) (l := l) n1 n2 n3)
  have HIL := Lib.hid (itoa_le i1)
  clear hlen hl IH hpl i1
  have E0 := EB.new w op v rel col n s q len c 26
  have B0 : Below w.heap.size w (w.alloc (.cells (exCells op v rel col n s q len c).toArray 26)) := ext_alloc (ext_refl _) _
  obtain ⟨W, hW⟩ : ∃ W, W = w.alloc (.cells (exCells op v rel col n s q len c).toArray 26) := ⟨_, rfl⟩
  rw [← hW] at E0 B0
  go_enter Tryd.func9, Tryd.ntmps9
  go_upto_region 1 with fail
  rw [← hW]
  clear hW
  obtain ⟨g, hg⟩ : ∃ g, g = w.heap.size := ⟨_, rfl⟩
  have HB := Lib.hid B0
  have HGW := Lib.hid hg
  rw [← hg] at E0
  rw [← hg]
  clear B0 hg
  have HE := Lib.hid E0
  obtain ⟨lt, c0, c1, c2, c3, c4, c5, c6, c7, c8⟩ := E0
  obtain ⟨D, hD⟩ : ∃ D, D = dgs op := ⟨_, rfl⟩
  rw [← hD] at HD hdl
  have g0 : ¬ 9223372036854775807 < 1 + D.size := by omega
  have HC := Lib.hid (show (⟨#[40]⟩ : ByteArray) ++ D = bsB (40 :: Lib.itoa op) by rw [hD]; exact cat2 40 op)
  clear hD n1 n2 n3
  go_wp2_with fail
  refine (HD.out _).mono ?_
  rintro e M ⟨rfl, hbM⟩
  have HBM := Lib.hid (HB.out.trans (hbM.mono HB.out.size))
  have HEM := Lib.hid (HE.out.on hbM)
  clear hbM lt c0 c1 c2 c3 c4 c5 c6 c7 c8 HB HE b1 b2 b3
  obtain ⟨lt, c0, c1, c2, c3, c4, c5, c6, c7, c8⟩ := HEM.out
  go_wp2_with fail
  go_loopw [3, 4] (fun vt vi wr => ∃ (T : ByteArray) (i : Nat), vt = .string T ∧ vi = .int .i64 i ∧ i ≤ len ∧ T.size ≤ 1000000000022 ∧ Hid (T = bsB (40 :: Lib.itoa op ++ printL (l.take i))) ∧ Hid (EB wr g op v rel col n s q len c ∧ Below w.heap.size w wr)) (fun _ vi _ => len - (intOf vi).toNat)
  case atStart => exact ⟨⟨#[40]⟩ ++ D, 0, rfl, rfl, by omega, by rw [HC.out]; show (40 :: Lib.itoa op).length ≤ _; have := HIL.out; simp; omega, by (show _ = _; rw [HC.out, List.take_zero, printL, List.append_nil]), HEM.out, HBM.out⟩
  case round =>
    obtain ⟨T, i, rfl, rfl, hi, hT, HT, hE⟩ := hrel
    obtain ⟨V, hV⟩ : ∃ V, V = wr := ⟨_, rfl⟩
    rw [← hV] at hE
    rw [← hV]
    have HEV := Lib.hid hE.out.1
    have HBV := Lib.hid hE.out.2
    have HT := Lib.hid HT.out
    clear hV hE lt c0 c1 c2 c3 c4 c5 c6 c7 c8 HEM HBM
    obtain ⟨lt, c0, c1, c2, c3, c4, c5, c6, c7, c8⟩ := HEV.out
    by_cases hlt : i < len
    · obtain ⟨y, hy⟩ : ∃ y, l[i]? = some y := ⟨_, List.getElem?_eq_getElem (by rw [← HLEN.out]; exact hlt)⟩
      have hl_ := ExL.at_ (ExL.ext HBV.out _ _ _ HL.out) hy
      obtain ⟨g0, off0, cs0, hq0, hg0, hx0, hcell⟩ := hl_
      subst hq0
      have HX0 := Lib.hid hx0
      have HIY := Lib.hid (HI.out y (List.mem_of_getElem? hy))
      have HS := Lib.hid (printL_step hy)
      clear hy
      obtain ⟨P, hP⟩ : ∃ P, P = y.print := ⟨_, rfl⟩
      rw [← hP] at HIY HS
      have hsz : (T ++ (⟨#[32]⟩ : ByteArray) ++ bsB P).size ≤ 1000000000022 := by
        have e : T ++ (⟨#[32]⟩ : ByteArray) ++ bsB P = bsB (40 :: Lib.itoa op ++ printL (l.take i) ++ [32] ++ P) := by
          rw [HT.out]
          exact (congrArg (· ++ bsB P) (bsB_add _ [32])).trans (bsB_add _ P)
        rw [e]
        show (40 :: Lib.itoa op ++ printL (l.take i) ++ [32] ++ P).length ≤ _
        have h1 := printL_take_le l (i + 1)
        rw [HS.out] at h1
        have h2 := HPL.out
        have h3 := HIL.out
        simp at h1 ⊢
        omega
      have HT2 := Lib.hid (show T ++ (⟨#[32]⟩ : ByteArray) ++ bsB P = bsB (40 :: Lib.itoa op ++ printL (l.take (i + 1))) by
        rw [HT.out, HS.out]
        refine ((congrArg (· ++ bsB P) (bsB_add _ [32])).trans (bsB_add _ P)).trans ?_
        simp)
      obtain ⟨B, hB⟩ : ∃ B, B = bsB P := ⟨_, rfl⟩
      rw [← hB] at hsz HT2 HIY
      have hs1 : ¬ 9223372036854775807 < T.size + 1 := by omega
      have hs2 : ¬ 9223372036854775807 < T.size + 1 + B.size := by rw [ByteArray.size_append, ByteArray.size_append] at hsz; have : (⟨#[32]⟩ : ByteArray).size = 1 := rfl; omega
      clear hP hB HT HS
      obtain ⟨op1, v1, rel1, col1, n1, s1, l1⟩ := y
      rw [ExM.iff] at hx0
      obtain ⟨-, qq0, cc0, rfl, -, -⟩ := hx0
      have f0 := hcell 0 _ rfl
      have f1 := hcell 1 _ rfl
      have f2 := hcell 2 _ rfl
      have f3 := hcell 3 _ rfl
      have f4 := hcell 4 _ rfl
      have f5 := hcell 5 _ rfl
      have f6 := hcell 6 _ rfl
      have f7 := hcell 7 _ rfl
      have f8 := hcell 8 _ rfl
      simp only [Nat.zero_add, Nat.add_zero] at f0 f1 f2 f3 f4 f5 f6 f7 f8
      clear hcell
      go_wp2_with fail
      refine (HIY.out _ V HX0.out).mono ?_
      rintro e Y ⟨rfl, hb⟩
      have HBY := Lib.hid (HBV.out.trans (hb.mono HBV.out.size))
      have HEY := Lib.hid (HEV.out.on hb)
      clear hb lt c0 c1 c2 c3 c4 c5 c6 c7 c8 f0 f1 f2 f3 f4 f5 f6 f7 f8
      go_wp2_with fail
      go_roundw
      case rel => exact ⟨T ++ (⟨#[32]⟩ : ByteArray) ++ B, i + 1, rfl, by go_num, hlt, hsz, HT2, HEY.out, HBY.out⟩
      case measure => simp [intOf] <;> omega
    · have HZ := Lib.hid (show T ++ (⟨#[41]⟩ : ByteArray) = bsB (Ex.mk op v rel col n s l).print by
        rw [HPR.out, HT.out, show i = l.length by rw [← HLEN.out]; omega, List.take_length]
        exact bsB_add _ [41])
      have hs1 : ¬ 9223372036854775807 < T.size + 1 := by omega
      clear HT
      go_wp2_with fail
      refine bodyPost_ret (v := .string (T ++ ⟨#[41]⟩)) (by simp [results, Tryd.results9, go_sem]) rfl ⟨by rw [HZ.out], HBV.out⟩
theorem rprint_wild : ∀ (k : Nat) (x : Ex), x.deep ≤ k → x.inAll → x.print.length ≤ 1000000000000 → ∀ (cs : List Value) (w : World), ExM w x cs → Calls Tryd.prog 9 #[.agg cs.toArray] w fun e w' => e = .returned (.string (bsB x.print)) ∧ Below w.heap.size w w'
  | 0, x, h, _, _ => absurd (deep_pos x) (by omega)
  | k + 1, .mk op v rel col n s l, h, hi, hp => fun cs w hx => by
    rw [Ex.inAll] at hi
    obtain ⟨⟨i1, i2, i3, i4⟩, hL⟩ := hi
    rw [Ex.deep] at h
    rw [ExM.iff] at hx
    obtain ⟨hv, q, c, rfl, -, hl⟩ := hx
    by_cases h1 : op = 1
    · subst h1
      rw [print_leaf1] at hp ⊢
      obtain ⟨kk, m, t⟩ := v
      by_cases k0 : kk = 0
      · subst k0; exact rprint_const0 m t rel col n s q l.length c w hv.2.1
      · by_cases k1 : kk = 1
        · subst k1; exact rprint_const1 m t rel col n s q l.length c w hv.2.1
        · by_cases k2 : kk = 2
          · subst k2; exact rprint_const2 m t rel col n s q l.length c w hv.2.1
          · refine rprint_const3 kk m t rel col n s q l.length c w hv.2.1 k0 k1 k2 ?_
            unfold printV at hp
            simp only [if_neg k0, if_neg k1, if_neg k2] at hp
            have e2 : t.data.size = t.size := rfl
            simp [e2] at hp
            omega
    · by_cases h2 : op = 2
      · subst h2
        rw [print_ref]
        exact rprint_refW v rel col n s q l.length c w i2 i3
      · by_cases h3 : op = 3
        · subst h3
          rw [print_par]
          exact rprint_parW v rel col n s q l.length c w i4
        · rw [print_opW h1 h2 h3] at hp
          have hp' : (printL l).length ≤ 1000000000000 := by simp at hp; omega
          refine rprint_opW op v rel col n s l q c w h1 h2 h3 i1 (Nat.le_trans (printL_many l) hp') hp' hl ?_
          exact fun y hy => rprint_wild k y (by have := deepL_of_mem hy; omega) (inAllL_of hL hy) (by have := printL_mem hy; omega)
open Go.RowKit
section
variable {α : Type} {cells : α → List Value} {sz : Nat}
theorem flat_len (hcl : ∀ x, (cells x).length = sz) (l : List α) : (l.flatMap cells).length = l.length * sz := by
  induction l with
  | nil => simp
  | cons a l ih => rw [List.flatMap_cons, List.length_append, hcl, ih, List.length_cons, Nat.add_mul]; omega
theorem flat_get (hcl : ∀ x, (cells x).length = sz) (h0 : 0 < sz) : ∀ (l : List α) (j : Nat) (u : Value), (l.flatMap cells)[j]? = some u → ∃ x, l[j / sz]? = some x ∧ (cells x)[j % sz]? = some u
  | [], j, u, h => by simp at h
  | a :: l, j, u, h => by
    rw [List.flatMap_cons] at h
    by_cases hj : j < sz
    · rw [List.getElem?_append_left (by rw [hcl]; exact hj)] at h
      exact ⟨a, by rw [Nat.div_eq_of_lt hj]; rfl, by rw [Nat.mod_eq_of_lt hj]; exact h⟩
    · rw [List.getElem?_append_right (by rw [hcl]; omega), hcl] at h
      obtain ⟨x, h1, h2⟩ := flat_get hcl h0 l (j - sz) u h
      have hjs : j = (j - sz) + sz := by omega
      refine ⟨x, ?_, ?_⟩
      · rw [hjs, Nat.add_div_right _ h0]
        simpa using h1
      · rw [hjs, Nat.add_mod_right]
        exact h2
theorem flat_at (hcl : ∀ x, (cells x).length = sz) : ∀ (l : List α) (j k : Nat) (x : α) (u : Value), l[j]? = some x → (cells x)[k]? = some u → (l.flatMap cells)[j * sz + k]? = some u
  | [], j, k, x, u, h, _ => by simp at h
  | a :: l, 0, k, x, u, h, hk => by
    simp at h
    subst h
    have hl := (List.getElem?_eq_some_iff.1 hk).1
    rw [List.flatMap_cons, Nat.zero_mul, Nat.zero_add, List.getElem?_append_left hl]
    exact hk
  | a :: l, j + 1, k, x, u, h, hk => by
    rw [List.flatMap_cons, List.getElem?_append_right (by rw [hcl, Nat.add_mul]; omega), hcl, show (j + 1) * sz + k - sz = j * sz + k by rw [Nat.add_mul]; omega]
    exact flat_at hcl l j k x u (by simpa using h) hk
def OwnF (w : World) (base : Nat) (E : TypeId) (sz : Nat) (cells : α → List Value) (v : Value) (l : List α) : Prop := w.ownsRow base E sz v l.length (l.flatMap cells)
theorem OwnF.nil (w : World) (base : Nat) (E : TypeId) : OwnF w base E sz cells (.slice none 0 0) [] := World.ownsRow_nil _ _ _ _
theorem OwnF.kept {S : Nat → Prop} {w w' : World} {base : Nat} {E : TypeId} {v : Value} {l : List α} (h : OwnF w base E sz cells v l) (o : Out S w w') (hS : ∀ k, S k → v.ownBlock ≠ some k) : OwnF w' base E sz cells v l := by
  obtain ⟨h1, h2⟩ := h
  refine ⟨h1, ?_⟩
  rcases h2 with h2 | ⟨g, cap, cur, hv, hg, hh, r⟩
  · exact .inl h2
  · have hlt : g < w.heap.size := by
      rcases Nat.lt_or_ge g w.heap.size with h | h
      · exact h
      · rw [Array.getElem?_eq_none h] at hh; cases hh
    exact .inr ⟨g, cap, cur, hv, hg, by rw [o.block g hlt (fun k => hS g k (by rw [hv]; rfl))]; exact hh, r⟩
theorem OwnF.later {w w' : World} {base : Nat} {E : TypeId} {v : Value} {l : List α} (h : OwnF w base E sz cells v l) (hb : Below w.heap.size w w') : OwnF w' base E sz cells v l := h.kept (Out.of (S := fun _ => False) hb) (fun _ h => h.elim)
theorem OwnF.base_le {w : World} {b b' : Nat} {E : TypeId} {v : Value} {l : List α} (h : OwnF w b E sz cells v l) (hb : b' ≤ b) : OwnF w b' E sz cells v l := by
  obtain ⟨h1, h2⟩ := h
  refine ⟨h1, ?_⟩
  rcases h2 with h2 | ⟨g, cap, cur, hv, hg, r⟩
  · exact .inl h2
  · exact .inr ⟨g, cap, cur, hv, Nat.le_trans hb hg, r⟩
theorem OwnF.arr {w : World} {base : Nat} {E : TypeId} {v : Value} {l : List α} (hcl : ∀ x, (cells x).length = sz) (h : OwnF w base E sz cells v l) :
    ∃ q c, v = .slice q l.length c ∧ l.length ≤ c ∧ c ≤ 9223372036854775807 ∧ (∀ g off, q = some ⟨g, off, none⟩ → off = 0 ∧ base ≤ g ∧ g < w.heap.size ∧ ∀ o, w.frozen? ⟨g, o, none⟩ = false) ∧ ArrA base w.heap.size q sz l (fun g o x => ∀ (k : Nat) u, (cells x)[k]? = some u → w.cell? ⟨g, o + k, none⟩ = some u) := by
  obtain ⟨h1, h2⟩ := h
  rcases h2 with ⟨rfl, h0⟩ | ⟨g, cap, cur, rfl, hb, hg, hn, hm, hc, ht⟩
  · exact ⟨none, 0, by rw [h0], by omega, by omega, (fun g off h => by cases h), fun i hi => by omega⟩
  · have hlt : g < w.heap.size := by
      rcases Nat.lt_or_ge g w.heap.size with h | h
      · exact h
      · rw [Array.getElem?_eq_none h] at hg; cases hg
    refine ⟨some ⟨g, 0, none⟩, cap, rfl, hn, by unfold maxLen at hm; omega, fun g' off h => ?_, fun i hi => ⟨g, 0, rfl, hb, hlt, fun j x hj k u hu => ?_⟩⟩
    · obtain ⟨rfl, rfl⟩ : g = g' ∧ 0 = off := by simpa using h
      exact ⟨rfl, hb, hlt, fun o => by rw [Lib.frozen_of_heap hg]; try simp⟩
    · have hf := flat_at hcl l j k x u hj hu
      have hjl : j * sz + k < l.length * sz := by
        have := (List.getElem?_eq_some_iff.1 hf).1
        rwa [flat_len hcl] at this
      rw [Lib.cell_of_heap hg, Nat.zero_add]
      have := congrArg (fun l => l[j * sz + k]?) ht
      simp only [List.getElem?_take, if_pos hjl] at this
      rw [← Array.getElem?_toList, this]
      exact hf
theorem wp_append_flat {w : World} {ops : Array Oper} {rest : List Oper} {o : Oper} {a : Act} {Q : Exit → Act → World → Prop} (hgd : o.guard = none) (s x : Operand) (T E : TypeId) (ho : o.op = .call { callee := .builtin .append, args := #[s, x], argTypes := #[T, T] })
    (hT : Tryd.prog.underlying T = some (.slice E)) (z : Value) (bytes : Nat) (hI : (Tryd.prog.info? E).map (fun i => (i.zero, i.size, i.bytes)) = some (some z, sz, bytes)) (hzs : z.cells.size = sz) (h0 : 0 < sz)
    (hcl : ∀ x : α, (cells x).length = sz) (h1 : ∀ (x : α) (u : Value), u ∈ cells x → u.oneCell' = true)
    (base : Nat) (v : Value) (l : List α) (hs : a.eval s = v) (hown : OwnF w base E sz cells v l) (p : Option Addr) (n c : Nat) (m : List α) (hn : n = m.length) (hx : a.eval x = .slice p n c)
    (lo hi : Nat) (hR : ArrA lo hi p sz m (fun g o x => ∀ (k : Nat) u, (cells x)[k]? = some u → w.cell? ⟨g, o + k, none⟩ = some u)) (hlen : l.length + m.length ≤ maxLen) (hbytes : (l.length + m.length) * bytes ≤ 140737488355328) (hbase : base ≤ w.heap.size)
    (h : ∀ v' w', OwnF w' base E sz cells v' (l ++ m) → Below base w w' → Out (fun k => v.ownBlock = some k) w w' → wpList Tryd.prog ops Q rest (a.put o.dst v') w') : wpList Tryd.prog ops Q (o :: rest) a w := by
  subst hn
  obtain ⟨i0, hi0, hz0, hz1, hz2⟩ := info_parts hI
  have go : ∀ ad : Addr, p = some ad → (∀ (j : Nat) (u : Value), (m.flatMap cells)[j]? = some u → w.cell? (ad.add j) = some u) → wpList Tryd.prog ops Q (o :: rest) a w := by
    intro ad hp hcells
    subst hp
    refine wpList_append_own w hgd s x T ho base E i0 z sz bytes hT hi0 hz0 hz1 hz2 hzs h0 v l.length _ hs hown ad m.length c (m.flatMap cells) hx (flat_len hcl m) hcells ?_ hlen hbytes hbase ?_
    · intro u hu
      obtain ⟨x, _, hx⟩ := List.mem_flatMap.1 hu
      exact h1 x u hx
    · intro v' w' h2 h3 _
      refine h v' w' ?_ ((Below.refl _ _).grown h3 hbase fun k hk => (hown.lt _ hk).1) (Out.grown h3 fun k hk => hk)
      unfold OwnF
      rw [List.length_append, List.flatMap_append]
      exact h2
  by_cases hm : 0 < m.length
  · obtain ⟨b, off, rfl, _, _, hc⟩ := hR 0 hm
    refine go _ rfl fun j u hj => ?_
    obtain ⟨y, hy, hk⟩ := flat_get hcl h0 m j u hj
    have := hc (j / sz) y hy (j % sz) u hk
    have e : off + j / sz * sz + j % sz = off + j := by rw [Nat.add_assoc, Nat.div_add_mod']
    rw [e] at this
    unfold Addr.add
    split
    · rename_i hj0; subst hj0; exact this
    · exact this
  · obtain rfl : m = [] := List.length_eq_zero_iff.1 (by omega)
    cases p with
    | none =>
      obtain ⟨q, cap, rfl, hcap, _, _⟩ := hown.arr hcl
      have hr := run_append_nothing (P := Tryd.prog) w T T o.type E i0 hT hi0 q l.length cap hcap (.slice none 0 c) ⟨.inl ⟨_, hT⟩, fun _ => rfl, run_firstCells_none w _ 0 0 c, run_firstCells_none w.drew _ 0 0 c, by simp, by simp⟩
      refine wpList_plain hgd fun K hK => ?_
      unfold Oper.wp execOp
      simp only [ho, resolve, invoke, builtin, Sem.run_bind, Sem.run_pure, Result.andThen_ok, List.map_toArray, List.map_cons, List.map_nil, hs, hx, List.length_nil, hr]
      exact hK _ _ (h _ _ (by simpa using hown) (Below.refl _ _) (Out.refl _ _))
    | some ad => exact go ad rfl (fun j u hj => by simp at hj)
end
theorem one_block {W : World} {α : Type} {cells : α → List Value} {sz : Nat} (_ : ∀ x, (cells x).length = sz) (E : TypeId) (cs : Array Value) (x : α) (hx : cs.toList = cells x) (b : Nat) (hb : b = W.heap.size) :
    ArrA 0 (b + 1) (some ⟨b, 0, none⟩) sz [x] (fun g o r => ∀ (k : Nat) u, (cells r)[k]? = some u → (W.alloc (.cells cs E)).cell? ⟨g, o + k, none⟩ = some u) := fun j hj => ⟨b, 0, rfl, Nat.zero_le _, by omega, fun n r hr k u hk => by
  subst hb
  have hn : n = 0 := by have := (List.getElem?_eq_some_iff.1 hr).1; simp at this; omega
  subst hn
  simp only [List.getElem?_cons_zero, Option.some.injEq] at hr
  subst hr
  rw [Lib.cell_of_heap (heap_alloc_new W _)]
  rw [← hx] at hk
  simpa using hk⟩
open Go.RowKit Go.Deep
set_option maxRecDepth 100000
section
variable {α : Type} {cells : α → List Value} {sz : Nat}
theorem run_append_flat (w : World) (T E ty : TypeId) (hT : Tryd.prog.underlying T = some (.slice E)) (z : Value) (bytes : Nat) (hI : (Tryd.prog.info? E).map (fun i => (i.zero, i.size, i.bytes)) = some (some z, sz, bytes)) (hzs : z.cells.size = sz) (h0 : 0 < sz)
    (hcl : ∀ x : α, (cells x).length = sz) (h1 : ∀ (x : α) (u : Value), u ∈ cells x → u.oneCell' = true)
    (base : Nat) (v : Value) (l : List α) (hown : OwnF w base E sz cells v l) (p : Option Addr) (n c : Nat) (m : List α) (hn : n = m.length)
    (lo hi : Nat) (hR : ArrA lo hi p sz m (fun g o x => ∀ (k : Nat) u, (cells x)[k]? = some u → w.cell? ⟨g, o + k, none⟩ = some u)) (hlen : l.length + m.length ≤ maxLen) (hbytes : (l.length + m.length) * bytes ≤ 140737488355328) (hbase : base ≤ w.heap.size) :
    ∃ v' w', (Builtin.append_ #[T, T] ty #[v, .slice p n c]).run Tryd.prog w = .ok v' w' ∧ OwnF w' base E sz cells v' (l ++ m) ∧ Below base w w' ∧ Out (fun k => v.ownBlock = some k) w w' ∧ (v'.ownBlock = v.ownBlock ∨ v'.ownBlock = some w.heap.size) := by
  subst hn
  obtain ⟨i0, hi0, hz0, hz1, hz2⟩ := info_parts hI
  have go : ∀ ad : Addr, p = some ad → (∀ (j : Nat) (u : Value), (m.flatMap cells)[j]? = some u → w.cell? (ad.add j) = some u) → ∃ v' w', (Builtin.append_ #[T, T] ty #[v, .slice p m.length c]).run Tryd.prog w = .ok v' w' ∧ OwnF w' base E sz cells v' (l ++ m) ∧ Below base w w' ∧ Out (fun k => v.ownBlock = some k) w w' ∧ (v'.ownBlock = v.ownBlock ∨ v'.ownBlock = some w.heap.size) := by
    intro ad hp hcells
    subst hp
    obtain ⟨v', w', hr, h2, h3, _, h5⟩ := run_append_own_at (P := Tryd.prog) w base T ty E i0 z sz bytes hT hi0 hz0 hz1 hz2 hzs h0 v l.length _ hown ad m.length c (m.flatMap cells) (flat_len hcl m) hcells (fun u hu => by
      obtain ⟨x, _, hx⟩ := List.mem_flatMap.1 hu
      exact h1 x u hx) hlen hbytes hbase
    refine ⟨v', w', hr, ?_, (Below.refl _ _).grown h3 hbase fun k hk => (hown.lt _ hk).1, Out.grown h3 fun k hk => hk, h5⟩
    unfold OwnF
    rw [List.length_append, List.flatMap_append]
    exact h2
  by_cases hm : 0 < m.length
  · obtain ⟨b, off, rfl, _, _, hc⟩ := hR 0 hm
    refine go _ rfl fun j u hj => ?_
    obtain ⟨y, hy, hk⟩ := flat_get hcl h0 m j u hj
    have := hc (j / sz) y hy (j % sz) u hk
    have e : off + j / sz * sz + j % sz = off + j := by rw [Nat.add_assoc, Nat.div_add_mod']
    rw [e] at this
    unfold Addr.add
    split
    · rename_i hj0; subst hj0; exact this
    · exact this
  · obtain rfl : m = [] := List.length_eq_zero_iff.1 (by omega)
    cases p with
    | none =>
      obtain ⟨q, cap, rfl, hcap, _, _⟩ := hown.arr hcl
      have hr := run_append_nothing (P := Tryd.prog) w T T ty E i0 hT hi0 q l.length cap hcap (.slice none 0 c) ⟨.inl ⟨_, hT⟩, fun _ => rfl, run_firstCells_none w _ 0 0 c, run_firstCells_none w.drew _ 0 0 c, by simp, by simp⟩
      exact ⟨_, _, hr, by simpa using hown, Below.refl _ _, Out.refl _ _, .inl rfl⟩
    | some ad => exact go ad rfl (fun j u hj => by simp at hj)
theorem flat_set (hcl : ∀ x, (cells x).length = sz) : ∀ (l : List α) (j k : Nat) (x x' : α) (u : Value), l[j]? = some x → k < sz → cells x' = (cells x).set k u → (l.set j x').flatMap cells = (l.flatMap cells).set (j * sz + k) u
  | [], j, k, x, x', u, h, _, _ => by simp at h
  | y :: l, 0, k, x, x', u, h, hk, hx => by
    simp at h
    subst h
    rw [List.set_cons_zero, List.flatMap_cons, List.flatMap_cons, hx, Nat.zero_mul, Nat.zero_add, List.set_append_left _ _ (by rw [hcl]; exact hk)]
  | y :: l, j + 1, k, x, x', u, h, hk, hx => by
    rw [List.set_cons_succ, List.flatMap_cons, List.flatMap_cons, flat_set hcl l j k x x' u (by simpa using h) hk hx, List.set_append_right _ _ (by rw [hcl, Nat.add_mul]; omega), hcl]
    congr 2
    rw [Nat.add_mul]
    omega
theorem OwnF.setc {w : World} {b : Nat} {E : TypeId} {g n c : Nat} {l : List α} (hcl : ∀ x, (cells x).length = sz) (h : OwnF w b E sz cells (.slice (some ⟨g, 0, none⟩) n c) l) {j k : Nat} {x x' : α} {u : Value} (hj : l[j]? = some x) (hk : k < sz) (hx : cells x' = (cells x).set k u) :
    OwnF (w.setCell ⟨g, j * sz + k, none⟩ u) b E sz cells (.slice (some ⟨g, 0, none⟩) n c) (l.set j x') := by
  obtain ⟨h1, h2⟩ := h
  have hf := flat_set hcl l j k x x' u hj hk hx
  have hjl := (List.getElem?_eq_some_iff.1 hj).1
  refine ⟨by rw [flat_len hcl], ?_⟩
  rcases h2 with ⟨h2, _⟩ | ⟨g', cap, cur, hv, hg, hh, hn, hm, hc, ht⟩
  · cases h2
  · simp only [Value.slice.injEq, Option.some.injEq, Addr.mk.injEq, and_true] at hv
    obtain ⟨rfl, rfl, rfl⟩ := hv
    rw [List.length_set]
    refine .inr ⟨g, c, cur.setIfInBounds (j * sz + k) u, rfl, hg, ?_, hn, hm, by simpa using hc, ?_⟩
    · rw [setCell_eq_setRow w g _ cur _ _ _ hh]
      exact setRow_heap w g _ _ _ _ hh
    · rw [hf, ← ht, Array.toList_setIfInBounds, List.take_set]
theorem OwnF.cellAt {w : World} {b : Nat} {E : TypeId} {g n c : Nat} {l : List α} (hcl : ∀ x, (cells x).length = sz) (h : OwnF w b E sz cells (.slice (some ⟨g, 0, none⟩) n c) l) {j k : Nat} {x : α} {u : Value} (hj : l[j]? = some x) (hk : (cells x)[k]? = some u) :
    w.cell? ⟨g, j * sz + k, none⟩ = some u ∧ ∀ o, w.frozen? ⟨g, o, none⟩ = false := by
  obtain ⟨q, c', e, _, _, hf, ha⟩ := h.arr hcl
  simp only [Value.slice.injEq] at e
  obtain ⟨rfl, -, -⟩ := e
  obtain ⟨g', off, e, _, _, hc⟩ := ha j (List.getElem?_eq_some_iff.1 hj).1
  obtain ⟨rfl, rfl⟩ : g = g' ∧ 0 = off := by simpa using e
  refine ⟨?_, (hf g 0 rfl).2.2.2⟩
  have := hc j x hj k u hk
  rwa [Nat.zero_add] at this
end
end Go.Proofs.YtklgoajgchfmeaaDoor
