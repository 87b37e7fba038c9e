/- A Sign: the first of the signs with which the text begins. -/
import Derived.Test.YtgmmbfcjjgehoaaGreatDoorLcB
namespace Go.Proofs.YtgmmbfcjjgehoaaGreatDoor
open Go.RowKit
set_option maxRecDepth 100000

/-- The first that the text begins with. -/
def firstP : List Bs → Bs → Option Bs
  | [], _ => none
  | c :: cs, l => if Lib.hasPrefix l c = true then some c else firstP cs l
theorem prefix_one (b x : UInt8) (r : Bs) : Lib.hasPrefix (b :: r) [x] = (x == b) := by simp [Lib.hasPrefix, List.isPrefixOf]
theorem prefix_two (b c x y : UInt8) (r : Bs) : Lib.hasPrefix (b :: c :: r) [x, y] = decide (b = x ∧ c = y) := by
  have h : Lib.hasPrefix (b :: c :: r) [x, y] = (x == b && (y == c && true)) := rfl
  rw [h, Bool.eq_iff_iff, Bool.and_true, Bool.and_eq_true, beq_iff_eq, beq_iff_eq, decide_eq_true_eq]
  exact ⟨fun h => ⟨h.1.symm, h.2.symm⟩, fun h => ⟨h.1.symm, h.2.symm⟩⟩
theorem prefix_short (b x y : UInt8) : Lib.hasPrefix [b] [x, y] = false := by simp [Lib.hasPrefix, List.isPrefixOf]
theorem first_singles (b : UInt8) (r : Bs) : firstP [[60], [62], [61], [43], [45], [42], [47], [40], [41], [44], [46]] (b :: r) = if b ∈ singles then some [b] else none := by
  simp only [firstP, prefix_one]
  exact all_bytes (P := fun b => (if ((60 : UInt8) == b) = true then some [60] else if ((62 : UInt8) == b) = true then some [62] else if ((61 : UInt8) == b) = true then some [61] else if ((43 : UInt8) == b) = true then some [43] else if ((45 : UInt8) == b) = true then some [45] else if ((42 : UInt8) == b) = true then some [42] else if ((47 : UInt8) == b) = true then some [47] else if ((40 : UInt8) == b) = true then some [40] else if ((41 : UInt8) == b) = true then some [41] else if ((44 : UInt8) == b) = true then some [44] else if ((46 : UInt8) == b) = true then some [46] else none) = if b ∈ singles then some [b] else none) (by decide) b
theorem first_three (l : Bs) : firstP signsL l = if Lib.hasPrefix l [60, 61] = true then some [60, 61] else if Lib.hasPrefix l [62, 61] = true then some [62, 61] else if Lib.hasPrefix l [60, 62] = true then some [60, 62] else firstP [[60], [62], [61], [43], [45], [42], [47], [40], [41], [44], [46]] l := rfl
theorem sign_first (l : Bs) : signOf l = firstP signsL l := by
  match l with
  | [] => rfl
  | [b] =>
    rw [signOf_one, first_three, prefix_short, prefix_short, prefix_short, first_singles]
    rfl
  | b :: c :: r =>
    rw [signOf_two, first_three, prefix_two, prefix_two, prefix_two, first_singles]
    simp only [decide_eq_true_eq]
/-- A sign, or none. -/
def signOne : Option Bs → One
  | none => .err 6 0
  | some x => .tok 6 0 x x.length
theorem oneSign_eq (l : Bs) : oneSign l = signOne (signOf l) := by
  unfold oneSign
  cases signOf l <;> rfl
theorem first_at {i : Nat} {c : Bs} (h : signsL[i]? = some c) (l : Bs) : firstP (signsL.drop i) l = if Lib.hasPrefix l c = true then some c else firstP (signsL.drop (i + 1)) l := by
  obtain ⟨h1, rfl⟩ := List.getElem?_eq_some_iff.1 h
  rw [List.drop_eq_getElem_cons h1]
  rfl
theorem lprefix_any (s p : ByteArray) (w : World) : Calls Tryz.prog 74 #[.string s, .string p] w fun e w' => e = .returned (.bool (Lib.hasPrefix s.data.toList p.data.toList)) ∧ w' = w := Any.strings_HasPrefix Tryz.lays99 s p w

set_option maxHeartbeats 4000000 in
theorem lsign_any (s : ByteArray) (w : World) (hG : GV w) :
    Calls Tryz.prog 52 #[.string s] w fun e w' => LRes (oneSign s.data.toList) e ∧ Below w.heap.size w w' := by
  have HG := Lib.hid hG.sg
  have hsz : 0 < w.heap.size := by have := hG.size; omega
  have g0 := hG.sg 0 _ rfl
  have g1 := hG.sg 1 _ rfl
  have g2 := hG.sg 2 _ rfl
  have g3 := hG.sg 3 _ rfl
  have g4 := hG.sg 4 _ rfl
  have g5 := hG.sg 5 _ rfl
  have g6 := hG.sg 6 _ rfl
  have g7 := hG.sg 7 _ rfl
  have g8 := hG.sg 8 _ rfl
  have g9 := hG.sg 9 _ rfl
  have g10 := hG.sg 10 _ rfl
  have g11 := hG.sg 11 _ rfl
  have g12 := hG.sg 12 _ rfl
  have g13 := hG.sg 13 _ rfl
  obtain ⟨l, hl⟩ : ∃ l, l = s.data.toList := ⟨_, rfl⟩
  have HL := Lib.hid hl
  rw [← hl, oneSign_eq, sign_first]
  clear hl hG HG
  go_enter Tryz.func52, Tryz.ntmps52
  go_wp2_with fail
  have R0 := Lib.hid (TK.new w 0 0 0 ⟨#[]⟩ 62)
  obtain ⟨W, hW⟩ : ∃ W, W = w.alloc (.cells #[.int .i64 0, .int .i64 0, .int .i64 0, .string ⟨#[]⟩] 62) := ⟨_, rfl⟩
  rw [← hW] at R0
  have BW : Below w.heap.size w W := by rw [hW]; (repeat (first | exact ext_refl _ | assumption | (refine ext_alloc ?_ _) | (refine ext_drewN ?_ _) | refine ext_drew ?_ | (refine ext_set (by first | (simp; done) | (simp; omega)) _ ?_) | (refine ext_trans ?_ (by assumption))))
  have HB := Lib.hid BW
  rw [← hW]
  clear hW BW g0 g1 g2 g3 g4 g5 g6 g7 g8 g9 g10 g11 g12 g13
  go_loopw [8] (fun va wr => ∃ i : Nat, va = .int .i64 i ∧ i ≤ 14 ∧ Hid (firstP signsL l = firstP (signsL.drop i) l) ∧ W = wr) (fun va _ => 14 - (intOf va).toNat)
  case atStart => exact ⟨0, by go_num, by omega, rfl, rfl⟩
  case round =>
    obtain ⟨i, rfl, hi, HF, rfl⟩ := hrel
    obtain ⟨lt, z0, z1, z2, z3, fz⟩ := R0.out
    by_cases hlt : i < 14
    · obtain ⟨c, hc⟩ : ∃ c, signsL[i]? = some c := ⟨_, List.getElem?_eq_getElem (by exact hlt)⟩
      have hF := HF.out.trans (first_at hc l)
      cases hp : Lib.hasPrefix l c with
      | true =>
        rw [hp, if_pos rfl] at hF
        have HE := Lib.hid hF
        have CP : ∀ w', Calls Tryz.prog 74 #[.string s, .string (bsB c)] w' fun e w'' => e = .returned (.bool true) ∧ w'' = w' := fun w' => (lprefix_any s (bsB c) w').mono fun e w'' h => ⟨by rw [h.1, ← HL.out, show (bsB c).data.toList = c from rfl, hp], h.2⟩
        clear hF hp HF hi
        have hk : i = 0 ∨ i = 1 ∨ i = 2 ∨ i = 3 ∨ i = 4 ∨ i = 5 ∨ i = 6 ∨ i = 7 ∨ i = 8 ∨ i = 9 ∨ i = 10 ∨ i = 11 ∨ i = 12 ∨ i = 13 := by omega
        clear hlt
        rcases hk with rfl | rfl | rfl | rfl | rfl | rfl | rfl | rfl | rfl | rfl | rfl | rfl | rfl | rfl
        · obtain rfl := Option.some.inj hc
          clear hc
          have ix : ∀ w' : World, (Instr.index 123 (.agg #[.string (bsB [60, 61]), .string (bsB [62, 61]), .string (bsB [60, 62]), .string (bsB [60]), .string (bsB [62]), .string (bsB [61]), .string (bsB [43]), .string (bsB [45]), .string (bsB [42]), .string (bsB [47]), .string (bsB [40]), .string (bsB [41]), .string (bsB [44]), .string (bsB [46])]) (.int .i64 0)).run Tryz.prog w' = .ok (.string (bsB [60, 61])) w' := fun _ => by kernel_rfl
          go_wp2_with (go_at_call 74; refine (CP _).mono ?_; rintro e w2 ⟨rfl, rfl⟩)
          refine bodyPost_ret (v := .tuple #[.agg #[.int .i64 6, .int .i64 0, .int .i64 0, .string (bsB [60, 61])], .int .i64 2, .int .i64 0]) (by simp [results, Tryz.results52, go_sem, z0, z1, z2, z3]) rfl ⟨by rw [HE.out]; exact LRes.tok_of rfl, ?_⟩
          have hbF := HB.out
          (repeat (first | exact ext_refl _ | assumption | (refine ext_alloc ?_ _) | (refine ext_drewN ?_ _) | refine ext_drew ?_ | (refine ext_set (by first | (simp; done) | (simp; omega)) _ ?_) | (refine ext_trans ?_ (by assumption))))
        · obtain rfl := Option.some.inj hc
          clear hc
          have ix : ∀ w' : World, (Instr.index 123 (.agg #[.string (bsB [60, 61]), .string (bsB [62, 61]), .string (bsB [60, 62]), .string (bsB [60]), .string (bsB [62]), .string (bsB [61]), .string (bsB [43]), .string (bsB [45]), .string (bsB [42]), .string (bsB [47]), .string (bsB [40]), .string (bsB [41]), .string (bsB [44]), .string (bsB [46])]) (.int .i64 1)).run Tryz.prog w' = .ok (.string (bsB [62, 61])) w' := fun _ => by kernel_rfl
          go_wp2_with (go_at_call 74; refine (CP _).mono ?_; rintro e w2 ⟨rfl, rfl⟩)
          refine bodyPost_ret (v := .tuple #[.agg #[.int .i64 6, .int .i64 0, .int .i64 0, .string (bsB [62, 61])], .int .i64 2, .int .i64 0]) (by simp [results, Tryz.results52, go_sem, z0, z1, z2, z3]) rfl ⟨by rw [HE.out]; exact LRes.tok_of rfl, ?_⟩
          have hbF := HB.out
          (repeat (first | exact ext_refl _ | assumption | (refine ext_alloc ?_ _) | (refine ext_drewN ?_ _) | refine ext_drew ?_ | (refine ext_set (by first | (simp; done) | (simp; omega)) _ ?_) | (refine ext_trans ?_ (by assumption))))
        · obtain rfl := Option.some.inj hc
          clear hc
          have ix : ∀ w' : World, (Instr.index 123 (.agg #[.string (bsB [60, 61]), .string (bsB [62, 61]), .string (bsB [60, 62]), .string (bsB [60]), .string (bsB [62]), .string (bsB [61]), .string (bsB [43]), .string (bsB [45]), .string (bsB [42]), .string (bsB [47]), .string (bsB [40]), .string (bsB [41]), .string (bsB [44]), .string (bsB [46])]) (.int .i64 2)).run Tryz.prog w' = .ok (.string (bsB [60, 62])) w' := fun _ => by kernel_rfl
          go_wp2_with (go_at_call 74; refine (CP _).mono ?_; rintro e w2 ⟨rfl, rfl⟩)
          refine bodyPost_ret (v := .tuple #[.agg #[.int .i64 6, .int .i64 0, .int .i64 0, .string (bsB [60, 62])], .int .i64 2, .int .i64 0]) (by simp [results, Tryz.results52, go_sem, z0, z1, z2, z3]) rfl ⟨by rw [HE.out]; exact LRes.tok_of rfl, ?_⟩
          have hbF := HB.out
          (repeat (first | exact ext_refl _ | assumption | (refine ext_alloc ?_ _) | (refine ext_drewN ?_ _) | refine ext_drew ?_ | (refine ext_set (by first | (simp; done) | (simp; omega)) _ ?_) | (refine ext_trans ?_ (by assumption))))
        · obtain rfl := Option.some.inj hc
          clear hc
          have ix : ∀ w' : World, (Instr.index 123 (.agg #[.string (bsB [60, 61]), .string (bsB [62, 61]), .string (bsB [60, 62]), .string (bsB [60]), .string (bsB [62]), .string (bsB [61]), .string (bsB [43]), .string (bsB [45]), .string (bsB [42]), .string (bsB [47]), .string (bsB [40]), .string (bsB [41]), .string (bsB [44]), .string (bsB [46])]) (.int .i64 3)).run Tryz.prog w' = .ok (.string (bsB [60])) w' := fun _ => by kernel_rfl
          go_wp2_with (go_at_call 74; refine (CP _).mono ?_; rintro e w2 ⟨rfl, rfl⟩)
          refine bodyPost_ret (v := .tuple #[.agg #[.int .i64 6, .int .i64 0, .int .i64 0, .string (bsB [60])], .int .i64 1, .int .i64 0]) (by simp [results, Tryz.results52, go_sem, z0, z1, z2, z3]) rfl ⟨by rw [HE.out]; exact LRes.tok_of rfl, ?_⟩
          have hbF := HB.out
          (repeat (first | exact ext_refl _ | assumption | (refine ext_alloc ?_ _) | (refine ext_drewN ?_ _) | refine ext_drew ?_ | (refine ext_set (by first | (simp; done) | (simp; omega)) _ ?_) | (refine ext_trans ?_ (by assumption))))
        · obtain rfl := Option.some.inj hc
          clear hc
          have ix : ∀ w' : World, (Instr.index 123 (.agg #[.string (bsB [60, 61]), .string (bsB [62, 61]), .string (bsB [60, 62]), .string (bsB [60]), .string (bsB [62]), .string (bsB [61]), .string (bsB [43]), .string (bsB [45]), .string (bsB [42]), .string (bsB [47]), .string (bsB [40]), .string (bsB [41]), .string (bsB [44]), .string (bsB [46])]) (.int .i64 4)).run Tryz.prog w' = .ok (.string (bsB [62])) w' := fun _ => by kernel_rfl
          go_wp2_with (go_at_call 74; refine (CP _).mono ?_; rintro e w2 ⟨rfl, rfl⟩)
          refine bodyPost_ret (v := .tuple #[.agg #[.int .i64 6, .int .i64 0, .int .i64 0, .string (bsB [62])], .int .i64 1, .int .i64 0]) (by simp [results, Tryz.results52, go_sem, z0, z1, z2, z3]) rfl ⟨by rw [HE.out]; exact LRes.tok_of rfl, ?_⟩
          have hbF := HB.out
          (repeat (first | exact ext_refl _ | assumption | (refine ext_alloc ?_ _) | (refine ext_drewN ?_ _) | refine ext_drew ?_ | (refine ext_set (by first | (simp; done) | (simp; omega)) _ ?_) | (refine ext_trans ?_ (by assumption))))
        · obtain rfl := Option.some.inj hc
          clear hc
          have ix : ∀ w' : World, (Instr.index 123 (.agg #[.string (bsB [60, 61]), .string (bsB [62, 61]), .string (bsB [60, 62]), .string (bsB [60]), .string (bsB [62]), .string (bsB [61]), .string (bsB [43]), .string (bsB [45]), .string (bsB [42]), .string (bsB [47]), .string (bsB [40]), .string (bsB [41]), .string (bsB [44]), .string (bsB [46])]) (.int .i64 5)).run Tryz.prog w' = .ok (.string (bsB [61])) w' := fun _ => by kernel_rfl
          go_wp2_with (go_at_call 74; refine (CP _).mono ?_; rintro e w2 ⟨rfl, rfl⟩)
          refine bodyPost_ret (v := .tuple #[.agg #[.int .i64 6, .int .i64 0, .int .i64 0, .string (bsB [61])], .int .i64 1, .int .i64 0]) (by simp [results, Tryz.results52, go_sem, z0, z1, z2, z3]) rfl ⟨by rw [HE.out]; exact LRes.tok_of rfl, ?_⟩
          have hbF := HB.out
          (repeat (first | exact ext_refl _ | assumption | (refine ext_alloc ?_ _) | (refine ext_drewN ?_ _) | refine ext_drew ?_ | (refine ext_set (by first | (simp; done) | (simp; omega)) _ ?_) | (refine ext_trans ?_ (by assumption))))
        · obtain rfl := Option.some.inj hc
          clear hc
          have ix : ∀ w' : World, (Instr.index 123 (.agg #[.string (bsB [60, 61]), .string (bsB [62, 61]), .string (bsB [60, 62]), .string (bsB [60]), .string (bsB [62]), .string (bsB [61]), .string (bsB [43]), .string (bsB [45]), .string (bsB [42]), .string (bsB [47]), .string (bsB [40]), .string (bsB [41]), .string (bsB [44]), .string (bsB [46])]) (.int .i64 6)).run Tryz.prog w' = .ok (.string (bsB [43])) w' := fun _ => by kernel_rfl
          go_wp2_with (go_at_call 74; refine (CP _).mono ?_; rintro e w2 ⟨rfl, rfl⟩)
          refine bodyPost_ret (v := .tuple #[.agg #[.int .i64 6, .int .i64 0, .int .i64 0, .string (bsB [43])], .int .i64 1, .int .i64 0]) (by simp [results, Tryz.results52, go_sem, z0, z1, z2, z3]) rfl ⟨by rw [HE.out]; exact LRes.tok_of rfl, ?_⟩
          have hbF := HB.out
          (repeat (first | exact ext_refl _ | assumption | (refine ext_alloc ?_ _) | (refine ext_drewN ?_ _) | refine ext_drew ?_ | (refine ext_set (by first | (simp; done) | (simp; omega)) _ ?_) | (refine ext_trans ?_ (by assumption))))
        · obtain rfl := Option.some.inj hc
          clear hc
          have ix : ∀ w' : World, (Instr.index 123 (.agg #[.string (bsB [60, 61]), .string (bsB [62, 61]), .string (bsB [60, 62]), .string (bsB [60]), .string (bsB [62]), .string (bsB [61]), .string (bsB [43]), .string (bsB [45]), .string (bsB [42]), .string (bsB [47]), .string (bsB [40]), .string (bsB [41]), .string (bsB [44]), .string (bsB [46])]) (.int .i64 7)).run Tryz.prog w' = .ok (.string (bsB [45])) w' := fun _ => by kernel_rfl
          go_wp2_with (go_at_call 74; refine (CP _).mono ?_; rintro e w2 ⟨rfl, rfl⟩)
          refine bodyPost_ret (v := .tuple #[.agg #[.int .i64 6, .int .i64 0, .int .i64 0, .string (bsB [45])], .int .i64 1, .int .i64 0]) (by simp [results, Tryz.results52, go_sem, z0, z1, z2, z3]) rfl ⟨by rw [HE.out]; exact LRes.tok_of rfl, ?_⟩
          have hbF := HB.out
          (repeat (first | exact ext_refl _ | assumption | (refine ext_alloc ?_ _) | (refine ext_drewN ?_ _) | refine ext_drew ?_ | (refine ext_set (by first | (simp; done) | (simp; omega)) _ ?_) | (refine ext_trans ?_ (by assumption))))
        · obtain rfl := Option.some.inj hc
          clear hc
          have ix : ∀ w' : World, (Instr.index 123 (.agg #[.string (bsB [60, 61]), .string (bsB [62, 61]), .string (bsB [60, 62]), .string (bsB [60]), .string (bsB [62]), .string (bsB [61]), .string (bsB [43]), .string (bsB [45]), .string (bsB [42]), .string (bsB [47]), .string (bsB [40]), .string (bsB [41]), .string (bsB [44]), .string (bsB [46])]) (.int .i64 8)).run Tryz.prog w' = .ok (.string (bsB [42])) w' := fun _ => by kernel_rfl
          go_wp2_with (go_at_call 74; refine (CP _).mono ?_; rintro e w2 ⟨rfl, rfl⟩)
          refine bodyPost_ret (v := .tuple #[.agg #[.int .i64 6, .int .i64 0, .int .i64 0, .string (bsB [42])], .int .i64 1, .int .i64 0]) (by simp [results, Tryz.results52, go_sem, z0, z1, z2, z3]) rfl ⟨by rw [HE.out]; exact LRes.tok_of rfl, ?_⟩
          have hbF := HB.out
          (repeat (first | exact ext_refl _ | assumption | (refine ext_alloc ?_ _) | (refine ext_drewN ?_ _) | refine ext_drew ?_ | (refine ext_set (by first | (simp; done) | (simp; omega)) _ ?_) | (refine ext_trans ?_ (by assumption))))
        · obtain rfl := Option.some.inj hc
          clear hc
          have ix : ∀ w' : World, (Instr.index 123 (.agg #[.string (bsB [60, 61]), .string (bsB [62, 61]), .string (bsB [60, 62]), .string (bsB [60]), .string (bsB [62]), .string (bsB [61]), .string (bsB [43]), .string (bsB [45]), .string (bsB [42]), .string (bsB [47]), .string (bsB [40]), .string (bsB [41]), .string (bsB [44]), .string (bsB [46])]) (.int .i64 9)).run Tryz.prog w' = .ok (.string (bsB [47])) w' := fun _ => by kernel_rfl
          go_wp2_with (go_at_call 74; refine (CP _).mono ?_; rintro e w2 ⟨rfl, rfl⟩)
          refine bodyPost_ret (v := .tuple #[.agg #[.int .i64 6, .int .i64 0, .int .i64 0, .string (bsB [47])], .int .i64 1, .int .i64 0]) (by simp [results, Tryz.results52, go_sem, z0, z1, z2, z3]) rfl ⟨by rw [HE.out]; exact LRes.tok_of rfl, ?_⟩
          have hbF := HB.out
          (repeat (first | exact ext_refl _ | assumption | (refine ext_alloc ?_ _) | (refine ext_drewN ?_ _) | refine ext_drew ?_ | (refine ext_set (by first | (simp; done) | (simp; omega)) _ ?_) | (refine ext_trans ?_ (by assumption))))
        · obtain rfl := Option.some.inj hc
          clear hc
          have ix : ∀ w' : World, (Instr.index 123 (.agg #[.string (bsB [60, 61]), .string (bsB [62, 61]), .string (bsB [60, 62]), .string (bsB [60]), .string (bsB [62]), .string (bsB [61]), .string (bsB [43]), .string (bsB [45]), .string (bsB [42]), .string (bsB [47]), .string (bsB [40]), .string (bsB [41]), .string (bsB [44]), .string (bsB [46])]) (.int .i64 10)).run Tryz.prog w' = .ok (.string (bsB [40])) w' := fun _ => by kernel_rfl
          go_wp2_with (go_at_call 74; refine (CP _).mono ?_; rintro e w2 ⟨rfl, rfl⟩)
          refine bodyPost_ret (v := .tuple #[.agg #[.int .i64 6, .int .i64 0, .int .i64 0, .string (bsB [40])], .int .i64 1, .int .i64 0]) (by simp [results, Tryz.results52, go_sem, z0, z1, z2, z3]) rfl ⟨by rw [HE.out]; exact LRes.tok_of rfl, ?_⟩
          have hbF := HB.out
          (repeat (first | exact ext_refl _ | assumption | (refine ext_alloc ?_ _) | (refine ext_drewN ?_ _) | refine ext_drew ?_ | (refine ext_set (by first | (simp; done) | (simp; omega)) _ ?_) | (refine ext_trans ?_ (by assumption))))
        · obtain rfl := Option.some.inj hc
          clear hc
          have ix : ∀ w' : World, (Instr.index 123 (.agg #[.string (bsB [60, 61]), .string (bsB [62, 61]), .string (bsB [60, 62]), .string (bsB [60]), .string (bsB [62]), .string (bsB [61]), .string (bsB [43]), .string (bsB [45]), .string (bsB [42]), .string (bsB [47]), .string (bsB [40]), .string (bsB [41]), .string (bsB [44]), .string (bsB [46])]) (.int .i64 11)).run Tryz.prog w' = .ok (.string (bsB [41])) w' := fun _ => by kernel_rfl
          go_wp2_with (go_at_call 74; refine (CP _).mono ?_; rintro e w2 ⟨rfl, rfl⟩)
          refine bodyPost_ret (v := .tuple #[.agg #[.int .i64 6, .int .i64 0, .int .i64 0, .string (bsB [41])], .int .i64 1, .int .i64 0]) (by simp [results, Tryz.results52, go_sem, z0, z1, z2, z3]) rfl ⟨by rw [HE.out]; exact LRes.tok_of rfl, ?_⟩
          have hbF := HB.out
          (repeat (first | exact ext_refl _ | assumption | (refine ext_alloc ?_ _) | (refine ext_drewN ?_ _) | refine ext_drew ?_ | (refine ext_set (by first | (simp; done) | (simp; omega)) _ ?_) | (refine ext_trans ?_ (by assumption))))
        · obtain rfl := Option.some.inj hc
          clear hc
          have ix : ∀ w' : World, (Instr.index 123 (.agg #[.string (bsB [60, 61]), .string (bsB [62, 61]), .string (bsB [60, 62]), .string (bsB [60]), .string (bsB [62]), .string (bsB [61]), .string (bsB [43]), .string (bsB [45]), .string (bsB [42]), .string (bsB [47]), .string (bsB [40]), .string (bsB [41]), .string (bsB [44]), .string (bsB [46])]) (.int .i64 12)).run Tryz.prog w' = .ok (.string (bsB [44])) w' := fun _ => by kernel_rfl
          go_wp2_with (go_at_call 74; refine (CP _).mono ?_; rintro e w2 ⟨rfl, rfl⟩)
          refine bodyPost_ret (v := .tuple #[.agg #[.int .i64 6, .int .i64 0, .int .i64 0, .string (bsB [44])], .int .i64 1, .int .i64 0]) (by simp [results, Tryz.results52, go_sem, z0, z1, z2, z3]) rfl ⟨by rw [HE.out]; exact LRes.tok_of rfl, ?_⟩
          have hbF := HB.out
          (repeat (first | exact ext_refl _ | assumption | (refine ext_alloc ?_ _) | (refine ext_drewN ?_ _) | refine ext_drew ?_ | (refine ext_set (by first | (simp; done) | (simp; omega)) _ ?_) | (refine ext_trans ?_ (by assumption))))
        · obtain rfl := Option.some.inj hc
          clear hc
          have ix : ∀ w' : World, (Instr.index 123 (.agg #[.string (bsB [60, 61]), .string (bsB [62, 61]), .string (bsB [60, 62]), .string (bsB [60]), .string (bsB [62]), .string (bsB [61]), .string (bsB [43]), .string (bsB [45]), .string (bsB [42]), .string (bsB [47]), .string (bsB [40]), .string (bsB [41]), .string (bsB [44]), .string (bsB [46])]) (.int .i64 13)).run Tryz.prog w' = .ok (.string (bsB [46])) w' := fun _ => by kernel_rfl
          go_wp2_with (go_at_call 74; refine (CP _).mono ?_; rintro e w2 ⟨rfl, rfl⟩)
          refine bodyPost_ret (v := .tuple #[.agg #[.int .i64 6, .int .i64 0, .int .i64 0, .string (bsB [46])], .int .i64 1, .int .i64 0]) (by simp [results, Tryz.results52, go_sem, z0, z1, z2, z3]) rfl ⟨by rw [HE.out]; exact LRes.tok_of rfl, ?_⟩
          have hbF := HB.out
          (repeat (first | exact ext_refl _ | assumption | (refine ext_alloc ?_ _) | (refine ext_drewN ?_ _) | refine ext_drew ?_ | (refine ext_set (by first | (simp; done) | (simp; omega)) _ ?_) | (refine ext_trans ?_ (by assumption))))
      | false =>
        rw [hp, if_neg (by simp)] at hF
        have HE := Lib.hid hF
        have CP : ∀ w', Calls Tryz.prog 74 #[.string s, .string (bsB c)] w' fun e w'' => e = .returned (.bool false) ∧ w'' = w' := fun w' => (lprefix_any s (bsB c) w').mono fun e w'' h => ⟨by rw [h.1, ← HL.out, show (bsB c).data.toList = c from rfl, hp], h.2⟩
        clear hF hp HF hi
        have hk : i = 0 ∨ i = 1 ∨ i = 2 ∨ i = 3 ∨ i = 4 ∨ i = 5 ∨ i = 6 ∨ i = 7 ∨ i = 8 ∨ i = 9 ∨ i = 10 ∨ i = 11 ∨ i = 12 ∨ i = 13 := by omega
        clear hlt
        rcases hk with rfl | rfl | rfl | rfl | rfl | rfl | rfl | rfl | rfl | rfl | rfl | rfl | rfl | rfl
        · obtain rfl := Option.some.inj hc
          clear hc
          have ix : ∀ w' : World, (Instr.index 123 (.agg #[.string (bsB [60, 61]), .string (bsB [62, 61]), .string (bsB [60, 62]), .string (bsB [60]), .string (bsB [62]), .string (bsB [61]), .string (bsB [43]), .string (bsB [45]), .string (bsB [42]), .string (bsB [47]), .string (bsB [40]), .string (bsB [41]), .string (bsB [44]), .string (bsB [46])]) (.int .i64 0)).run Tryz.prog w' = .ok (.string (bsB [60, 61])) w' := fun _ => by kernel_rfl
          go_wp2_with (go_at_call 74; refine (CP _).mono ?_; rintro e w2 ⟨rfl, rfl⟩)
          go_roundw
          case rel => exact ⟨1, by go_num, by omega, HE.out, trivial⟩
          case measure => simp [intOf]
        · obtain rfl := Option.some.inj hc
          clear hc
          have ix : ∀ w' : World, (Instr.index 123 (.agg #[.string (bsB [60, 61]), .string (bsB [62, 61]), .string (bsB [60, 62]), .string (bsB [60]), .string (bsB [62]), .string (bsB [61]), .string (bsB [43]), .string (bsB [45]), .string (bsB [42]), .string (bsB [47]), .string (bsB [40]), .string (bsB [41]), .string (bsB [44]), .string (bsB [46])]) (.int .i64 1)).run Tryz.prog w' = .ok (.string (bsB [62, 61])) w' := fun _ => by kernel_rfl
          go_wp2_with (go_at_call 74; refine (CP _).mono ?_; rintro e w2 ⟨rfl, rfl⟩)
          go_roundw
          case rel => exact ⟨2, by go_num, by omega, HE.out, trivial⟩
          case measure => simp [intOf]
        · obtain rfl := Option.some.inj hc
          clear hc
          have ix : ∀ w' : World, (Instr.index 123 (.agg #[.string (bsB [60, 61]), .string (bsB [62, 61]), .string (bsB [60, 62]), .string (bsB [60]), .string (bsB [62]), .string (bsB [61]), .string (bsB [43]), .string (bsB [45]), .string (bsB [42]), .string (bsB [47]), .string (bsB [40]), .string (bsB [41]), .string (bsB [44]), .string (bsB [46])]) (.int .i64 2)).run Tryz.prog w' = .ok (.string (bsB [60, 62])) w' := fun _ => by kernel_rfl
          go_wp2_with (go_at_call 74; refine (CP _).mono ?_; rintro e w2 ⟨rfl, rfl⟩)
          go_roundw
          case rel => exact ⟨3, by go_num, by omega, HE.out, trivial⟩
          case measure => simp [intOf]
        · obtain rfl := Option.some.inj hc
          clear hc
          have ix : ∀ w' : World, (Instr.index 123 (.agg #[.string (bsB [60, 61]), .string (bsB [62, 61]), .string (bsB [60, 62]), .string (bsB [60]), .string (bsB [62]), .string (bsB [61]), .string (bsB [43]), .string (bsB [45]), .string (bsB [42]), .string (bsB [47]), .string (bsB [40]), .string (bsB [41]), .string (bsB [44]), .string (bsB [46])]) (.int .i64 3)).run Tryz.prog w' = .ok (.string (bsB [60])) w' := fun _ => by kernel_rfl
          go_wp2_with (go_at_call 74; refine (CP _).mono ?_; rintro e w2 ⟨rfl, rfl⟩)
          go_roundw
          case rel => exact ⟨4, by go_num, by omega, HE.out, trivial⟩
          case measure => simp [intOf]
        · obtain rfl := Option.some.inj hc
          clear hc
          have ix : ∀ w' : World, (Instr.index 123 (.agg #[.string (bsB [60, 61]), .string (bsB [62, 61]), .string (bsB [60, 62]), .string (bsB [60]), .string (bsB [62]), .string (bsB [61]), .string (bsB [43]), .string (bsB [45]), .string (bsB [42]), .string (bsB [47]), .string (bsB [40]), .string (bsB [41]), .string (bsB [44]), .string (bsB [46])]) (.int .i64 4)).run Tryz.prog w' = .ok (.string (bsB [62])) w' := fun _ => by kernel_rfl
          go_wp2_with (go_at_call 74; refine (CP _).mono ?_; rintro e w2 ⟨rfl, rfl⟩)
          go_roundw
          case rel => exact ⟨5, by go_num, by omega, HE.out, trivial⟩
          case measure => simp [intOf]
        · obtain rfl := Option.some.inj hc
          clear hc
          have ix : ∀ w' : World, (Instr.index 123 (.agg #[.string (bsB [60, 61]), .string (bsB [62, 61]), .string (bsB [60, 62]), .string (bsB [60]), .string (bsB [62]), .string (bsB [61]), .string (bsB [43]), .string (bsB [45]), .string (bsB [42]), .string (bsB [47]), .string (bsB [40]), .string (bsB [41]), .string (bsB [44]), .string (bsB [46])]) (.int .i64 5)).run Tryz.prog w' = .ok (.string (bsB [61])) w' := fun _ => by kernel_rfl
          go_wp2_with (go_at_call 74; refine (CP _).mono ?_; rintro e w2 ⟨rfl, rfl⟩)
          go_roundw
          case rel => exact ⟨6, by go_num, by omega, HE.out, trivial⟩
          case measure => simp [intOf]
        · obtain rfl := Option.some.inj hc
          clear hc
          have ix : ∀ w' : World, (Instr.index 123 (.agg #[.string (bsB [60, 61]), .string (bsB [62, 61]), .string (bsB [60, 62]), .string (bsB [60]), .string (bsB [62]), .string (bsB [61]), .string (bsB [43]), .string (bsB [45]), .string (bsB [42]), .string (bsB [47]), .string (bsB [40]), .string (bsB [41]), .string (bsB [44]), .string (bsB [46])]) (.int .i64 6)).run Tryz.prog w' = .ok (.string (bsB [43])) w' := fun _ => by kernel_rfl
          go_wp2_with (go_at_call 74; refine (CP _).mono ?_; rintro e w2 ⟨rfl, rfl⟩)
          go_roundw
          case rel => exact ⟨7, by go_num, by omega, HE.out, trivial⟩
          case measure => simp [intOf]
        · obtain rfl := Option.some.inj hc
          clear hc
          have ix : ∀ w' : World, (Instr.index 123 (.agg #[.string (bsB [60, 61]), .string (bsB [62, 61]), .string (bsB [60, 62]), .string (bsB [60]), .string (bsB [62]), .string (bsB [61]), .string (bsB [43]), .string (bsB [45]), .string (bsB [42]), .string (bsB [47]), .string (bsB [40]), .string (bsB [41]), .string (bsB [44]), .string (bsB [46])]) (.int .i64 7)).run Tryz.prog w' = .ok (.string (bsB [45])) w' := fun _ => by kernel_rfl
          go_wp2_with (go_at_call 74; refine (CP _).mono ?_; rintro e w2 ⟨rfl, rfl⟩)
          go_roundw
          case rel => exact ⟨8, by go_num, by omega, HE.out, trivial⟩
          case measure => simp [intOf]
        · obtain rfl := Option.some.inj hc
          clear hc
          have ix : ∀ w' : World, (Instr.index 123 (.agg #[.string (bsB [60, 61]), .string (bsB [62, 61]), .string (bsB [60, 62]), .string (bsB [60]), .string (bsB [62]), .string (bsB [61]), .string (bsB [43]), .string (bsB [45]), .string (bsB [42]), .string (bsB [47]), .string (bsB [40]), .string (bsB [41]), .string (bsB [44]), .string (bsB [46])]) (.int .i64 8)).run Tryz.prog w' = .ok (.string (bsB [42])) w' := fun _ => by kernel_rfl
          go_wp2_with (go_at_call 74; refine (CP _).mono ?_; rintro e w2 ⟨rfl, rfl⟩)
          go_roundw
          case rel => exact ⟨9, by go_num, by omega, HE.out, trivial⟩
          case measure => simp [intOf]
        · obtain rfl := Option.some.inj hc
          clear hc
          have ix : ∀ w' : World, (Instr.index 123 (.agg #[.string (bsB [60, 61]), .string (bsB [62, 61]), .string (bsB [60, 62]), .string (bsB [60]), .string (bsB [62]), .string (bsB [61]), .string (bsB [43]), .string (bsB [45]), .string (bsB [42]), .string (bsB [47]), .string (bsB [40]), .string (bsB [41]), .string (bsB [44]), .string (bsB [46])]) (.int .i64 9)).run Tryz.prog w' = .ok (.string (bsB [47])) w' := fun _ => by kernel_rfl
          go_wp2_with (go_at_call 74; refine (CP _).mono ?_; rintro e w2 ⟨rfl, rfl⟩)
          go_roundw
          case rel => exact ⟨10, by go_num, by omega, HE.out, trivial⟩
          case measure => simp [intOf]
        · obtain rfl := Option.some.inj hc
          clear hc
          have ix : ∀ w' : World, (Instr.index 123 (.agg #[.string (bsB [60, 61]), .string (bsB [62, 61]), .string (bsB [60, 62]), .string (bsB [60]), .string (bsB [62]), .string (bsB [61]), .string (bsB [43]), .string (bsB [45]), .string (bsB [42]), .string (bsB [47]), .string (bsB [40]), .string (bsB [41]), .string (bsB [44]), .string (bsB [46])]) (.int .i64 10)).run Tryz.prog w' = .ok (.string (bsB [40])) w' := fun _ => by kernel_rfl
          go_wp2_with (go_at_call 74; refine (CP _).mono ?_; rintro e w2 ⟨rfl, rfl⟩)
          go_roundw
          case rel => exact ⟨11, by go_num, by omega, HE.out, trivial⟩
          case measure => simp [intOf]
        · obtain rfl := Option.some.inj hc
          clear hc
          have ix : ∀ w' : World, (Instr.index 123 (.agg #[.string (bsB [60, 61]), .string (bsB [62, 61]), .string (bsB [60, 62]), .string (bsB [60]), .string (bsB [62]), .string (bsB [61]), .string (bsB [43]), .string (bsB [45]), .string (bsB [42]), .string (bsB [47]), .string (bsB [40]), .string (bsB [41]), .string (bsB [44]), .string (bsB [46])]) (.int .i64 11)).run Tryz.prog w' = .ok (.string (bsB [41])) w' := fun _ => by kernel_rfl
          go_wp2_with (go_at_call 74; refine (CP _).mono ?_; rintro e w2 ⟨rfl, rfl⟩)
          go_roundw
          case rel => exact ⟨12, by go_num, by omega, HE.out, trivial⟩
          case measure => simp [intOf]
        · obtain rfl := Option.some.inj hc
          clear hc
          have ix : ∀ w' : World, (Instr.index 123 (.agg #[.string (bsB [60, 61]), .string (bsB [62, 61]), .string (bsB [60, 62]), .string (bsB [60]), .string (bsB [62]), .string (bsB [61]), .string (bsB [43]), .string (bsB [45]), .string (bsB [42]), .string (bsB [47]), .string (bsB [40]), .string (bsB [41]), .string (bsB [44]), .string (bsB [46])]) (.int .i64 12)).run Tryz.prog w' = .ok (.string (bsB [44])) w' := fun _ => by kernel_rfl
          go_wp2_with (go_at_call 74; refine (CP _).mono ?_; rintro e w2 ⟨rfl, rfl⟩)
          go_roundw
          case rel => exact ⟨13, by go_num, by omega, HE.out, trivial⟩
          case measure => simp [intOf]
        · obtain rfl := Option.some.inj hc
          clear hc
          have ix : ∀ w' : World, (Instr.index 123 (.agg #[.string (bsB [60, 61]), .string (bsB [62, 61]), .string (bsB [60, 62]), .string (bsB [60]), .string (bsB [62]), .string (bsB [61]), .string (bsB [43]), .string (bsB [45]), .string (bsB [42]), .string (bsB [47]), .string (bsB [40]), .string (bsB [41]), .string (bsB [44]), .string (bsB [46])]) (.int .i64 13)).run Tryz.prog w' = .ok (.string (bsB [46])) w' := fun _ => by kernel_rfl
          go_wp2_with (go_at_call 74; refine (CP _).mono ?_; rintro e w2 ⟨rfl, rfl⟩)
          go_roundw
          case rel => exact ⟨14, by go_num, by omega, HE.out, trivial⟩
          case measure => simp [intOf]
    · obtain rfl : i = 14 := by omega
      have HE := HF.out
      clear hlt hi HF
      have HE2 := Lib.hid HE
      clear HE
      go_wp2_with fail
      refine bodyPost_ret (v := .tuple #[.agg #[.int .i64 0, .int .i64 0, .int .i64 0, .string ⟨#[]⟩], .int .i64 0, .int .i64 6]) (by simp [results, Tryz.results52, go_sem, z0, z1, z2, z3]) rfl ⟨by rw [HE2.out]; rfl, ?_⟩
      have hbF := HB.out
      (repeat (first | exact ext_refl _ | assumption | (refine ext_alloc ?_ _) | (refine ext_drewN ?_ _) | refine ext_drew ?_ | (refine ext_set (by first | (simp; done) | (simp; omega)) _ ?_) | (refine ext_trans ?_ (by assumption))))

end Go.Proofs.YtgmmbfcjjgehoaaGreatDoor
