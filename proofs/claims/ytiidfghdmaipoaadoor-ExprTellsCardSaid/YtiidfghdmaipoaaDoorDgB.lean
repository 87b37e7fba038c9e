/- The reference's text of a leaf. -/
import Derived.Test.YtiidfghdmaipoaaDoorDgA
namespace Go.Proofs.YtiidfghdmaipoaaDoor
open Go.RowKit Go.Deep
set_option maxRecDepth 100000

set_option maxHeartbeats 4000000 in
theorem rprint_leaf (op : Int) (v : Val) (rel col n : Int) (s : ByteArray) (q : Option Addr) (c : Nat) (w : World) (hh : headOk op v rel col n s 0 = true) (hv : inR v.n = true) :
    Calls Tryd.prog 26 #[.agg (exCells op v rel col n s q 0 c).toArray] w fun e w' => e = .returned (.string (bsB (Ex.mk op v rel col n s []).print)) ∧ Below w.heap.size w w' := by
  have HH := Lib.hid hh
  have HV := Lib.hid hv
  have hs := (head_shape hh).2
  clear hh hv
  have E0 := EB.new w op v rel col n s q 0 c 26
  have B0 : Below w.heap.size w (w.alloc (.cells (exCells op v rel col n s q 0 c).toArray 26)) := ext_alloc (ext_refl _) _
  obtain ⟨W, hW⟩ : ∃ W, W = w.alloc (.cells (exCells op v rel col n s q 0 c).toArray 26) := ⟨_, rfl⟩
  rw [← hW] at E0 B0
  go_enter Tryd.func26, Tryd.ntmps26
  go_upto_region 1 with fail
  rw [← hW]
  clear hW
  obtain ⟨g, hg⟩ : ∃ g, g = w.heap.size := ⟨_, rfl⟩
  have HB := Lib.hid B0
  have HGW := Lib.hid hg
  rw [← hg] at E0
  rw [← hg]
  clear B0 hg
  have HE := Lib.hid E0
  obtain ⟨lt, c0, c1, c2, c3, c4, c5, c6, c7, c8⟩ := E0
  rcases hs with ⟨rfl, -, -, -, -, hr⟩ | ⟨rfl, -, -, -⟩ | ⟨rfl, -, -, -, -⟩ | ⟨h4, -, -, -, -, -, hw⟩
  · obtain ⟨k, m, t⟩ := v
    have HS := Lib.hid (size_inR hr)
    have hs := right_shape hr
    have hv := HV.out
    clear hr
    simp only at hs hv c1 c2 c3
    have i1 := (inR_iff.1 hv).1
    have i2 := (inR_iff.1 hv).2
    rcases hs with ⟨rfl, -, -⟩ | ⟨rfl, -⟩ | ⟨rfl, -⟩ | ⟨rfl, -⟩
    · go_wp2_with fail
      refine bodyPost_ret (v := .string ⟨#[78]⟩) (by simp [results, Tryd.results26, go_sem]) rfl ⟨by rw [print_leaf1]; rfl, HB.out⟩
    · have HP := Lib.hid (show (Ex.mk 1 ⟨1, m, t⟩ rel col n s []).print = 73 :: Lib.itoa m by rw [print_leaf1]; unfold printV; simp)
      have HI := Lib.hid (fun w => digits_any m i1 i2 w)
      have hl := dgs_le m hv
      obtain ⟨D, hD⟩ : ∃ D, D = dgs m := ⟨_, rfl⟩
      rw [← hD] at hl HI
      have g0 : ¬ 9223372036854775807 < 1 + D.size := by omega
      have HQ := Lib.hid (show (⟨#[73]⟩ : ByteArray) ++ D = bsB (73 :: Lib.itoa m) by rw [hD]; exact cat2 73 m)
      clear hl hD
      go_wp2_with fail
      refine (HI.out _).mono ?_
      rintro e X ⟨rfl, hbX⟩
      have HBX := Lib.hid (HB.out.trans (hbX.mono HB.out.size))
      clear hbX lt c0 c1 c2 c3 c4 c5 c6 c7 c8
      go_wp2_with fail
      refine bodyPost_ret (v := .string (⟨#[73]⟩ ++ D)) (by simp [results, Tryd.results26, go_sem]) rfl ⟨by rw [HQ.out, HP.out], HBX.out⟩
    · have HP := Lib.hid (show (Ex.mk 1 ⟨2, m, t⟩ rel col n s []).print = 66 :: Lib.itoa m by rw [print_leaf1]; unfold printV; simp)
      have HI := Lib.hid (fun w => digits_any m i1 i2 w)
      have hl := dgs_le m hv
      obtain ⟨D, hD⟩ : ∃ D, D = dgs m := ⟨_, rfl⟩
      rw [← hD] at hl HI
      have g0 : ¬ 9223372036854775807 < 1 + D.size := by omega
      have HQ := Lib.hid (show (⟨#[66]⟩ : ByteArray) ++ D = bsB (66 :: Lib.itoa m) by rw [hD]; exact cat2 66 m)
      clear hl hD
      go_wp2_with fail
      refine (HI.out _).mono ?_
      rintro e X ⟨rfl, hbX⟩
      have HBX := Lib.hid (HB.out.trans (hbX.mono HB.out.size))
      clear hbX lt c0 c1 c2 c3 c4 c5 c6 c7 c8
      go_wp2_with fail
      refine bodyPost_ret (v := .string (⟨#[66]⟩ ++ D)) (by simp [results, Tryd.results26, go_sem]) rfl ⟨by rw [HQ.out, HP.out], HBX.out⟩
    · have HP := Lib.hid (show (Ex.mk 1 ⟨3, m, t⟩ rel col n s []).print = 84 :: Lib.itoa t.size ++ [58] ++ t.data.toList by rw [print_leaf1]; unfold printV; simp)
      obtain ⟨hi, hsl⟩ := HS.out rfl
      have HI3 := Lib.hid (fun (x : After W) => calls_after (digits_any t.size (inR_iff.1 hi).1 (inR_iff.1 hi).2 x.W))
      have hl := dgs_le t.size hi
      obtain ⟨D, hD⟩ : ∃ D, D = dgs t.size := ⟨_, rfl⟩
      rw [← hD] at hl HI3
      have g0 : ¬ 9223372036854775807 < 1 + D.size := by omega
      have g1 : ¬ 9223372036854775807 < 1 + D.size + 1 := by omega
      have g2 : ¬ 9223372036854775807 < 1 + D.size + 1 + t.size := by omega
      have HD := Lib.hid (show (⟨#[84]⟩ : ByteArray) ++ D ++ ⟨#[58]⟩ ++ t = bsB (84 :: Lib.itoa t.size ++ [58] ++ t.data.toList) by rw [hD]; exact cat4 84 58 t.size t)
      clear hl hsl hD hi
      go_upto_region 10 with fail
      have r3 := fun (x : After W) => (x.cell g 3 lt).trans c3
      have is := After.some W
      refine wp_region_after (by kernel_rfl) (by kernel_rfl) ?_
      repeat (quiet_step ((go_at_call 52; exact HI3.out _)))
      refine wpQuiet_nil ?_
      intro Wq hw
      obtain ⟨⟨Wq, hbq⟩, rfl⟩ := hw
      go_wp2_with fail
      refine bodyPost_ret (v := .string (⟨#[84]⟩ ++ D ++ ⟨#[58]⟩ ++ t)) (by simp [results, Tryd.results26, go_sem]) rfl ⟨by rw [HP.out, HD.out], HB.out.trans (hbq.mono HB.out.size)⟩
  · have h1 := rel_ok HH.out rfl
    have h2 := col_ok HH.out rfl
    have i1 := inR_small h1.1 (by omega : rel ≤ 100)
    have i2 := inR_small h2.1 (by omega : col ≤ 100)
    have HI1 := Lib.hid (fun (x : After W) => calls_after (digits_any rel (inR_iff.1 i1).1 (inR_iff.1 i1).2 x.W))
    have HI2 := Lib.hid (fun (x : After W) => calls_after (digits_any col (inR_iff.1 i2).1 (inR_iff.1 i2).2 x.W))
    have hl := dgs_le rel i1
    have hl2 := dgs_le col i2
    obtain ⟨D, hD⟩ : ∃ D, D = dgs rel := ⟨_, rfl⟩
    obtain ⟨E, hE⟩ : ∃ E, E = dgs col := ⟨_, rfl⟩
    rw [← hD] at hl HI1
    rw [← hE] at hl2 HI2
    have g0 : ¬ 9223372036854775807 < 1 + D.size := by omega
    have g1 : ¬ 9223372036854775807 < 1 + D.size + 1 := by omega
    have g2 : ¬ 9223372036854775807 < 1 + D.size + 1 + E.size := by omega
    have HQ := Lib.hid (show (⟨#[82]⟩ : ByteArray) ++ D ++ ⟨#[46]⟩ ++ E = bsB (82 :: Lib.itoa rel ++ [46] ++ Lib.itoa col) by rw [hD, hE]; exact cat4 82 46 rel (dgs col))
    have r4 := fun (x : After W) => (x.cell g 4 lt).trans c4
    have r5 := fun (x : After W) => (x.cell g 5 lt).trans c5
    clear h1 h2 i1 i2 hl hl2 hD hE
    go_upto_region 12 with fail
    have is := After.some W
    refine wp_region_after (by kernel_rfl) (by kernel_rfl) ?_
    repeat (quiet_step ((go_at_call 52; first | with_reducible exact HI1.out _ | with_reducible exact HI2.out _)))
    refine wpQuiet_nil ?_
    intro Wq hw
    obtain ⟨⟨Wq, hbq⟩, rfl⟩ := hw
    go_wp2_with fail
    refine bodyPost_ret (v := .string (⟨#[82]⟩ ++ D ++ ⟨#[46]⟩ ++ E)) (by simp [results, Tryd.results26, go_sem]) rfl ⟨by rw [HQ.out, print_ref], HB.out.trans (hbq.mono HB.out.size)⟩
  · have h1 := n_ok HH.out rfl
    have i1 := inR_small (show 0 ≤ n by omega) (by omega : n ≤ 100)
    have HP := Lib.hid (print_par (v := v) (rel := rel) (col := col) (n := n) (s := s) (l := []))
    have HI := Lib.hid (fun w => digits_any n (inR_iff.1 i1).1 (inR_iff.1 i1).2 w)
    have hl := dgs_le n i1
    obtain ⟨D, hD⟩ : ∃ D, D = dgs n := ⟨_, rfl⟩
    rw [← hD] at hl HI
    have g0 : ¬ 9223372036854775807 < 1 + D.size := by omega
    have HQ := Lib.hid (show (⟨#[80]⟩ : ByteArray) ++ D = bsB (80 :: Lib.itoa n) by rw [hD]; exact cat2 80 n)
    clear hl hD
    go_wp2_with fail
    refine (HI.out _).mono ?_
    rintro e X ⟨rfl, hbX⟩
    have HBX := Lib.hid (HB.out.trans (hbX.mono HB.out.size))
    clear hbX lt c0 c1 c2 c3 c4 c5 c6 c7 c8
    go_wp2_with fail
    refine bodyPost_ret (v := .string (⟨#[80]⟩ ++ D)) (by simp [results, Tryd.results26, go_sem]) rfl ⟨by rw [HQ.out, HP.out], HBX.out⟩
  · exfalso
    unfold wantsOf at hw
    split at hw
    · omega
    · split at hw
      · omega
      · split at hw <;> omega

end Go.Proofs.YtiidfghdmaipoaaDoor
