/- The law's examples. -/
import Derived.Test.YtkgdbpfpjpiejaaHiC
import Derived.Test.YtkgdbpfpjpiejaaFlat2
namespace Go.Proofs.Ytkgdbpfpjpiejaa
open Go.RowKit Go.Deep
set_option linter.unusedVariables false
set_option linter.unusedSimpArgs false
set_option maxRecDepth 100000

set_option maxHeartbeats 400000 in
theorem n13_any (k : Int) (w : World) :
    Calls Try.prog 25 #[.int .i64 k] w fun e w' => e = .returned (num k).v ∧ Below w.heap.size w w' := by
  go_enter Try.func25, Try.ntmps25
  go_wp2
  (refine bodyPost_ret (v := (num k).v) (by simp [results, Try.results25, go_sem]) rfl ⟨rfl, ?_⟩)
  (repeat (first | exact ext_refl _ | assumption | (refine ext_alloc ?_ _) | (refine ext_drewN ?_ _) | refine ext_drew ?_ | (refine ext_set (by first | (simp; done) | (simp; omega)) _ ?_) | (refine ext_trans ?_ (by assumption))))

/-- A step's four cells. -/
def sCell (s : Stp) : List Value := [.int .i64 s.x.k, .int .i64 s.x.n, .string s.x.s, .int .i64 s.m]
theorem sCell_len (s : Stp) : (sCell s).length = 4 := rfl
theorem sCell_one (s : Stp) (u : Value) (h : u ∈ sCell s) : u.oneCell' = true := by
  simp only [sCell, List.mem_cons, List.not_mem_nil, or_false] at h
  rcases h with rfl | rfl | rfl | rfl <;> rfl

/-- Steps behind an address, as their cells tell. -/
theorem stepsA_of {w : World} {base hi : Nat} {q : Option Addr} {l : List Stp} (h : ArrA base hi q 4 l (fun g o x => ∀ (k : Nat) u, (sCell x)[k]? = some u → w.cell? ⟨g, o + k, none⟩ = some u)) : StepsA w 0 hi q l :=
  ArrA.wide (ArrA.imp h fun _ _ _ _ _ hc => ⟨⟨hc 0 _ rfl, hc 1 _ rfl, hc 2 _ rfl⟩, hc 3 _ rfl⟩) (Nat.zero_le _) (Nat.le_refl _)
theorem cells_of {w : World} {lo hi : Nat} {q : Option Addr} {l : List Stp} (h : StepsA w lo hi q l) : ArrA lo hi q 4 l (fun g o x => ∀ (k : Nat) u, (sCell x)[k]? = some u → w.cell? ⟨g, o + k, none⟩ = some u) :=
  ArrA.imp h fun g o x _ _ hc k u hk => by
    match k with
    | 0 => simp [sCell] at hk; rw [← hk]; exact hc.1.1
    | 1 => simp [sCell] at hk; rw [← hk]; exact hc.1.2.1
    | 2 => simp [sCell] at hk; rw [← hk]; exact hc.1.2.2
    | 3 => simp [sCell] at hk; rw [← hk]; exact hc.2
    | k + 4 => simp [sCell] at hk
abbrev egS : List Stp := [⟨num 5, 10⟩, ⟨num 9, 30⟩]
theorem eg_part : partN 12 0 egS (num 6) = 10 ∧ partD 12 0 egS = 40 := by decide +kernel
theorem eg_mul : mulC 1000000000 1000000000 = 1000000000000 ∧ timesC 10 1 3 = 3 ∧ clip (-5) = 0 := by decide +kernel
theorem stepsA_new (w : World) (T : TypeId) (l : List Stp) : StepsA (w.alloc (.cells (l.flatMap sCell).toArray T)) 0 (w.alloc (.cells (l.flatMap sCell).toArray T)).heap.size (some ⟨w.heap.size, 0, none⟩) l :=
  stepsA_of (base := 0) fun i hi => ⟨w.heap.size, 0, rfl, Nat.zero_le _, by simp, fun j x hx k u hk => by
    rw [Lib.cell_of_heap (heap_alloc_new w _), List.getElem?_toArray, Nat.zero_add]
    exact flat_at sCell_len l j k x u hx hk⟩

set_option maxHeartbeats 4000000 in
theorem examples13_any (w : World) : Calls Try.prog 9 #[] w fun e w' => e = .returned (.bool true) ∧ Below w.heap.size w w' := by
  go_enter Try.func9, Try.ntmps9
  go_upto_region 2 with (go_at_call 25; first | (refine (n13_any 5 _).mono ?_; rintro e w0 ⟨rfl, hb0⟩) | (refine (n13_any 9 _).mono ?_; rintro e w1 ⟨rfl, hb1⟩))
  have S1 := stepsA_new w1 39 egS
  obtain ⟨V0, hV0⟩ : ∃ V, V = w1.alloc (.cells #[.int .i64 1, .int .i64 5, .string ⟨#[]⟩, .int .i64 10, .int .i64 1, .int .i64 9, .string ⟨#[]⟩, .int .i64 30] 39) := ⟨_, rfl⟩
  have S2 : StepsA V0 0 V0.heap.size (some ⟨w1.heap.size, 0, none⟩) egS := by rw [hV0]; exact S1
  have e0 : V0.heap.size = w1.heap.size + 1 := by rw [hV0]; simp
  rw [← hV0]
  obtain ⟨V, hV⟩ : ∃ V, V = V0.alloc (.cells #[.int .i64 0, .int .i64 0, .slice (some ⟨w1.heap.size, 0, none⟩) 2 2] 29) := ⟨_, rfl⟩
  rw [← hV]
  have B0 : Below w.heap.size w V := by
    rw [hV, hV0]
    exact ext_alloc (ext_alloc (hb0.trans (hb1.mono hb0.size)) _) _
  have HS := Lib.hid (show StepsA V 0 V.heap.size (some ⟨w1.heap.size, 0, none⟩) egS from StepsA.later S2 (by rw [hV]; exact ext_alloc (ext_refl _) _))
  have lt0 : w1.heap.size + 1 < V.heap.size := by rw [hV]; simp; omega
  have c0 : V.cell? ⟨w1.heap.size + 1, 0, none⟩ = some (.int .i64 0) := by rw [hV, ← e0]; simp [go_sem]
  have c1 : V.cell? ⟨w1.heap.size + 1, 1, none⟩ = some (.int .i64 0) := by rw [hV, ← e0]; simp [go_sem]
  have c2 : V.cell? ⟨w1.heap.size + 1, 2, none⟩ = some (.slice (some ⟨w1.heap.size, 0, none⟩) 2 2) := by rw [hV, ← e0]; simp [go_sem]
  have HB := Lib.hid B0
  clear S1 S2 hV hV0 e0 B0 hb0 hb1
  generalize w1.heap.size = g at *
  have q0 := fun (z : After V) => (z.cell (g + 1) _ lt0).trans c0
  have q1 := fun (z : After V) => (z.cell (g + 1) _ lt0).trans c1
  have q2 := fun (z : After V) => (z.cell (g + 1) _ lt0).trans c2
  have CN : ∀ (z : After V), Calls Try.prog 25 #[.int .i64 6] z.W fun e w' => e = .returned (num 6).v ∧ Below z.W.heap.size z.W w' := fun z => n13_any 6 z.W
  have CP : ∀ (z : After V), Calls Try.prog 18 #[.int .i64 12, .agg #[.int .i64 0, .int .i64 0, .slice (some ⟨g, 0, none⟩) 2 2], .agg #[.int .i64 1, .int .i64 6, .string ⟨#[]⟩]] z.W fun e w' => e = .returned (.tuple #[.int .i64 10, .int .i64 40]) ∧ Below z.W.heap.size z.W w' := fun z => by
    have h := part_any 12 0 0 (some ⟨g, 0, none⟩) egS 2 (num 6) z.W (by decide) (StepsA.later HS.out z.below)
    rw [eg_part.1, eg_part.2] at h
    exact h
  have is := After.some V
  refine wp_region_after (by kernel_rfl) (by kernel_rfl) ?_
  repeat (quiet_step ((first | (go_at_call 25; exact calls_after (CN _)) | (go_at_call 18; exact calls_after (CP _)))))
  refine wpQuiet_nil ?_
  intro W1 hw
  obtain ⟨⟨W2, hb⟩, rfl⟩ := hw
  have HB2 := HB.out.trans (hb.mono HB.out.size)
  clear q0 q1 q2 c0 c1 c2 CN CP is hb HS HB
  have C1 := fun w => eg_mul.1 ▸ mul_any 1000000000 1000000000 w
  have C2 := fun w => eg_mul.2.1 ▸ times_any 10 1 3 w
  have C3 := fun w => eg_mul.2.2 ▸ clip_any (-5) w
  go_wp2_with (first | (go_at_call 14; refine (C1 _).mono ?_; rintro e w1 ⟨rfl, rfl⟩) | (go_at_call 16; refine (C2 _).mono ?_; rintro e w1 ⟨rfl, rfl⟩) | (go_at_call 10; refine (C3 _).mono ?_; rintro e w1 ⟨rfl, rfl⟩))
  go_ret
  exact ⟨rfl, HB2⟩

end Go.Proofs.Ytkgdbpfpjpiejaa
