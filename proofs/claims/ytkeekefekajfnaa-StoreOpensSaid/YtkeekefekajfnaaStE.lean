/- The chapter's examples are so. -/
import Derived.Test.YtkeekefekajfnaaStC
namespace Go.Proofs.Ytkeekefekajfnaa
open Go.RowKit
set_option maxRecDepth 100000

theorem alloc_old {w : World} {o : Obj} {k : Nat} {x : Obj} (h : w.heap[k]? = some x) : (w.alloc o).heap[k]? = some x := by
  have hk : k < w.heap.size := (Array.getElem?_eq_some_iff.1 h).1
  rw [Below.heap_alloc _ _ _ hk]
  exact h
theorem alloc_new {w : World} {o : Obj} {k : Nat} (h : k = w.heap.size) : (w.alloc o).heap[k]? = some o := by
  rw [h]
  exact heap_alloc_new w o
theorem one_arr {α : Type} {lo hi g sz : Nat} {x : α} {P : Nat → Nat → α → Prop} (h1 : lo ≤ g) (h2 : g < hi) (h : P g 0 x) : ArrA lo hi (some ⟨g, 0, none⟩) sz [x] P := fun i _ => ⟨g, 0, rfl, h1, h2, fun j y hj => by
  have : j < 1 := (List.getElem?_eq_some_iff.1 hj).1
  obtain rfl : j = 0 := by omega
  obtain rfl : x = y := by simpa using hj
  rw [Nat.zero_mul]
  exact h⟩

abbrev exWorld (w : World) : World :=
  ((((w.alloc (.cells #[.string ⟨#[97]⟩, .int .i64 1] 39)).alloc (.cells #[.int .i64 1, .int .i64 1, .string ⟨#[]⟩] 37)).alloc (.cells #[.int .i64 0, .int .i64 0, .string ⟨#[]⟩] 37)).alloc
    (.cells #[.slice (some ⟨w.heap.size + 1, 0, none⟩) 1 1, .slice (some ⟨w.heap.size + 1 + 1, 0, none⟩) 1 1] 31)).alloc
      (.cells #[.string ⟨#[116]⟩, .slice (some ⟨w.heap.size, 0, none⟩) 1 1, .slice (some ⟨w.heap.size + 1 + 1 + 1, 0, none⟩) 2 2] 30)
theorem exTabs_built (w : World) : TabsA (exWorld w) 0 (exWorld w).heap.size (some ⟨w.heap.size + 1 + 1 + 1 + 1, 0, none⟩) [exTab] := by
  have hs : (exWorld w).heap.size = w.heap.size + 5 := by simp [exWorld]
  have b0 : (exWorld w).heap[w.heap.size]? = some (.cells #[.string ⟨#[97]⟩, .int .i64 1] 39) := alloc_old (alloc_old (alloc_old (alloc_old (alloc_new rfl))))
  have b1 : (exWorld w).heap[w.heap.size + 1]? = some (.cells #[.int .i64 1, .int .i64 1, .string ⟨#[]⟩] 37) := alloc_old (alloc_old (alloc_old (alloc_new (by simp))))
  have b2 : (exWorld w).heap[w.heap.size + 1 + 1]? = some (.cells #[.int .i64 0, .int .i64 0, .string ⟨#[]⟩] 37) := alloc_old (alloc_old (alloc_new (by simp)))
  have b3 : (exWorld w).heap[w.heap.size + 1 + 1 + 1]? = some (.cells #[.slice (some ⟨w.heap.size + 1, 0, none⟩) 1 1, .slice (some ⟨w.heap.size + 1 + 1, 0, none⟩) 1 1] 31) := alloc_old (alloc_new (by simp))
  have b4 : (exWorld w).heap[w.heap.size + 1 + 1 + 1 + 1]? = some (.cells #[.string ⟨#[116]⟩, .slice (some ⟨w.heap.size, 0, none⟩) 1 1, .slice (some ⟨w.heap.size + 1 + 1 + 1, 0, none⟩) 2 2] 30) := alloc_new (by simp)
  refine one_arr (Nat.zero_le _) (by omega) ⟨⟨?_, by decide⟩, ⟨some ⟨w.heap.size, 0, none⟩, 1, ?_, by decide, by omega, one_arr (Nat.zero_le _) (by omega) ⟨⟨?_, ?_⟩, by decide⟩⟩, some ⟨w.heap.size + 1 + 1 + 1, 0, none⟩, 2, ?_, by decide, by omega, fun i _ => ⟨_, 0, rfl, Nat.zero_le _, by omega, fun j r hr => ?_⟩⟩
  · rw [Lib.cell_of_heap b4]; rfl
  · rw [Lib.cell_of_heap b4]; rfl
  · rw [Lib.cell_of_heap b0]; rfl
  · rw [Lib.cell_of_heap b0]; rfl
  · rw [Lib.cell_of_heap b4]; rfl
  · have hj : j < 2 := (List.getElem?_eq_some_iff.1 hr).1
    match j, hj with
    | 0, _ =>
      obtain rfl : [(⟨1, 1, ⟨#[]⟩⟩ : Val)] = r := by simpa [exTab] using hr
      exact ⟨some ⟨w.heap.size + 1, 0, none⟩, 1, by rw [Lib.cell_of_heap b3]; rfl, by decide, by omega, one_arr (Nat.zero_le _) (by omega) ⟨by rw [Lib.cell_of_heap b1]; rfl, by rw [Lib.cell_of_heap b1]; rfl, by rw [Lib.cell_of_heap b1]; rfl⟩⟩
    | 1, _ =>
      obtain rfl : [(⟨0, 0, ⟨#[]⟩⟩ : Val)] = r := by simpa [exTab] using hr
      exact ⟨some ⟨w.heap.size + 1 + 1, 0, none⟩, 1, by rw [Lib.cell_of_heap b3]; rfl, by decide, by omega, one_arr (Nat.zero_le _) (by omega) ⟨by rw [Lib.cell_of_heap b2]; rfl, by rw [Lib.cell_of_heap b2]; rfl, by rw [Lib.cell_of_heap b2]; rfl⟩⟩
theorem exWorld_below (w : World) : Below w.heap.size w (exWorld w) := (((((Below.refl _ _).alloc (Nat.le_refl _) _).alloc (by simp) _).alloc (by simp; omega) _).alloc (by simp; omega) _).alloc (by simp; omega) _

theorem Try.eqlVal (a b : Val) (w : World) : (binOp .eql 37 (.agg #[.int .i64 a.k, .int .i64 a.n, .string a.s]) (.agg #[.int .i64 b.k, .int .i64 b.n, .string b.s])).run Try.prog w = .ok (.bool (a.k == b.k && a.n == b.n && a.s.toList == b.s.toList)) w := by
  have hS : Try.prog.underlying 37 = some (.struct (Try.prog.fieldsOf 37)) := by kernel_rfl
  have hp : Try.prog.stoodInHeld 37 = false := by kernel_rfl
  rw [run_eql_struct, show (10000 : Nat) = 9999 + 1 from rfl, run_equalIn_agg w 9999 37 _ _ hS hp]
  simp only [Program.fieldsOf, Try.underlying37]
  go_simp
  by_cases h1 : a.k = b.k <;> by_cases h2 : a.n = b.n <;> by_cases h3 : a.s.toList = b.s.toList <;> simp [h1, h2, h3]
theorem Try.neqVal5 (a b : Val) (w : World) : (binOp .neq 37 (.agg #[.int .i64 a.k, .int .i64 a.n, .string a.s]) (.agg #[.int .i64 b.k, .int .i64 b.n, .string b.s])).run Try.prog w = .ok (.bool (!(a.k == b.k && a.n == b.n && a.s.toList == b.s.toList))) w := by
  have hS : Try.prog.underlying 37 = some (.struct (Try.prog.fieldsOf 37)) := by kernel_rfl
  have hp : Try.prog.stoodInHeld 37 = false := by kernel_rfl
  rw [run_neq_struct, show (10000 : Nat) = 9999 + 1 from rfl, run_equalIn_agg w 9999 37 _ _ hS hp]
  simp only [Program.fieldsOf, Try.underlying37]
  go_simp
  by_cases h1 : a.k = b.k <;> by_cases h2 : a.n = b.n <;> by_cases h3 : a.s.toList = b.s.toList <;> simp [h1, h2, h3]
theorem Try.eqlNul (w : World) : (binOp .eql 37 (.agg #[.int .i64 0, .int .i64 0, .string ⟨#[]⟩]) (.agg #[.int .i64 0, .int .i64 0, .string ⟨#[]⟩])).run Try.prog w = .ok (.bool true) w := by
  have h := Try.eqlVal ⟨0, 0, ⟨#[]⟩⟩ ⟨0, 0, ⟨#[]⟩⟩ w
  rw [h]
  simp
theorem Try.eqGuard5 : Try.prog.eqGuardType Try.prog.depth 37 = false := by kernel_rfl

set_option maxHeartbeats 2000000 in
theorem ex5_any {StP : World → (Nat → Prop) → Nat → List Tab → Kept → Nat → Prop} (C : StoreC StP) (w : World) : Calls Try.prog 8 #[] w fun e w' => e = .returned (.bool true) ∧ Below w.heap.size w w' := by
  go_enter Try.func8, Try.ntmps8
  go_wp2_with fail
  refine (C.open_ [exTab] (some ⟨w.heap.size + 1 + 1 + 1 + 1, 0, none⟩) 1 0 (exWorld w).heap.size (exWorld w) (by simp) (by omega) (exTabs_built w) (Nat.le_refl _)).mono ?_
  rintro e w1 ⟨hb1, ⟨_, p, S, rfl, hS, hlow⟩ | ⟨hno, _⟩⟩
  · have E1 := Lib.hid ((exWorld_below w).trans (hb1.mono (exWorld_below w).size))
    have HS := Lib.hid hS
    clear hS hb1 hlow
    go_wp2_with fail
    have hrow : Calls Try.prog 17 #[.pointer (some ⟨p, 0, none⟩), .int .i64 0, .int .i64 1] w1 fun e w' =>
        (∃ q c, e = .returned (.tuple #[.slice q 1 c, .bool true]) ∧ OwnVals w' w1.heap.size q c [⟨0, 0, ⟨#[]⟩⟩]) ∧ Below w1.heap.size w1 w' := C.row w1 S p [exTab] _ 0 0 1 HS.out (by decide) (by decide)
    refine hrow.mono ?_
    rintro e w2 ⟨⟨q, c, rfl, hO⟩, hb2⟩
    obtain ⟨g, off, rfl, _, hg, hc⟩ := hO.arr.at_ (show 0 < 1 by omega)
    rw [Nat.zero_mul, Nat.add_zero] at hc
    have HC := Lib.hid (And.intro hc hg)
    have E2 := Lib.hid (E1.out.trans (hb2.mono E1.out.size))
    have HS2 := Lib.hid (C.keep HS.out (Out.of (S := fun _ => False) hb2) (fun _ h => h.elim))
    clear hrow hO hb2 hc HS E1
    go_wp2_with fail
    have hmany : Calls Try.prog 15 #[.pointer (some ⟨p, 0, none⟩), .int .i64 0] w2 fun e w' => e = .returned (.int .i64 2) ∧ Below w2.heap.size w2 w' := C.many w2 S p [exTab] _ 0 0 HS2.out (by decide)
    refine hmany.mono ?_
    rintro e w3 ⟨rfl, hb3⟩
    have c0 := (hb3.cell (p := ⟨g, off, none⟩) HC.out.2).trans HC.out.1.1
    have c1 := (hb3.cell (p := ⟨g, off + 1, none⟩) HC.out.2).trans HC.out.1.2.1
    have c2 := (hb3.cell (p := ⟨g, off + 2, none⟩) HC.out.2).trans HC.out.1.2.2
    have E3 := Lib.hid (E2.out.trans (hb3.mono E2.out.size))
    have HS3 := Lib.hid (C.keep HS2.out (Out.of (S := fun _ => False) hb3) (fun _ h => h.elim))
    clear hmany hb3 HS2 E2
    have heq := Try.eqlNul
    have hg2 : Try.prog.eqGuardType Try.prog.depth 37 = false := Try.eqGuard5
    go_wp2_with fail
    have hfind : Calls Try.prog 14 #[.pointer (some ⟨p, 0, none⟩), .string ⟨#[117]⟩] w3 fun e w' => e = .returned (.int .i64 (-1)) ∧ Below w3.heap.size w3 w' := by
      have hf : findT ⟨#[117]⟩ [exTab] = -1 := findT_none _ _ (fun j u hu => by
        have hj : j < 1 := (List.getElem?_eq_some_iff.1 hu).1
        obtain rfl : j = 0 := by omega
        obtain rfl : exTab = u := by simpa using hu
        simp [exTab, ByteArray.toList_eq])
      have := C.find w3 S p [exTab] _ 0 ⟨#[117]⟩ HS3.out
      rwa [hf] at this
    refine hfind.mono ?_
    rintro e w4 ⟨rfl, hb4⟩
    have E4 := Lib.hid (E3.out.trans (hb4.mono E3.out.size))
    clear hfind hb4 HS3 E3 c0 c1 c2 heq hg2
    go_wp2_with fail
    refine (C.name ⟨#[115, 101, 108, 101, 99, 116]⟩ w4 (by decide)).mono ?_
    rintro e w5 ⟨⟨b5, rfl, hn5⟩, hb5⟩
    have h5 : b5 = false := by
      cases b5
      · rfl
      · exact absurd (hn5.1 rfl) name_select
    have E5 := Lib.hid (E4.out.trans (hb5.mono E4.out.size))
    subst h5
    clear hn5 hb5 E4
    go_wp2_with fail
    refine (C.name ⟨#[97, 95, 49]⟩ w5 (by decide)).mono ?_
    rintro e w6 ⟨⟨b6, rfl, hn6⟩, hb6⟩
    have h6 : b6 = true := hn6.2 name_a1
    have E6 := Lib.hid (E5.out.trans (hb6.mono E5.out.size))
    subst h6
    clear hn6 hb6 E5
    go_wp2
    go_ret
    exact ⟨rfl, E6.out⟩
  · exact absurd exTab_right hno

end Go.Proofs.Ytkeekefekajfnaa
