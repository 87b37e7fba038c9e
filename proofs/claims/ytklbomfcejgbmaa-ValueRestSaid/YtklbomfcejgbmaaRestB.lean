/- ValueRest: a number that is not below nought. -/
import Derived.Test.YtklbomfcejgbmaaValC
import Derived.Test.YtklbomfcejgbmaaValE
import Derived.Test.YtklbomfcejgbmaaBox
import Derived.Test.YtklbomfcejgbmaaFrame
namespace Go.Proofs.Ytklbomfcejgbmaa
open Go.ChangeShapes Go.WideShapes Go.ChangeAt Go.RowKit Go.Joins

set_option maxHeartbeats 4000000 in
theorem rest_way0 (a : Int) (b : Int) (q p r : Int) (w : World) (ha : inR a = true) (hb : inR b = true) (hq : inR q = true) (hp : inR p = true) (hD : arith 7 (num a) (num b) = (num q, 0)) (hM : arith 6 (num q) (num b) = (num p, 0)) (hS : arith 5 (num a) (num p) = (num r, 0))
    (b0 : -9223372036854775808 ≤ b) (b1 : b ≤ 9223372036854775807) (s0 : 0 ≤ a) (s1 : 0 ≤ r) (u0 : 0 < b) (u1 : r < b) (u2 : -b < r) : Calls Try.prog 7 #[.int .i64 a, .int .i64 b] w fun e w' => e = .returned (.bool true) ∧ Below w.heap.size w w' := by
  have HD := Lib.hid hD
  have HM := Lib.hid hM
  have HS := Lib.hid hS
  have Ha := Lib.hid ha
  have Hb := Lib.hid hb
  have Hq := Lib.hid hq
  have Hp := Lib.hid hp
  clear hD hM hS ha hb hq hp
  have E := ext_refl w
  go_enter Try.func7, Try.ntmps7
  go_wp2_with fail
  refine (examples_any _).mono ?_
  rintro e W1 ⟨rfl, hb⟩
  have E := ext_trans E hb
  clear hb
  go_wp2_with fail
  refine (n_any _ _).mono ?_
  rintro e W2 ⟨rfl, hb⟩
  have E := ext_trans E hb
  clear hb
  go_wp2_with fail
  refine (n_any _ _).mono ?_
  rintro e W3 ⟨rfl, hb⟩
  have E := ext_trans E hb
  clear hb
  go_wp2_with fail
  refine (div_any (num a) (num b) _ Ha.out Hb.out).mono ?_
  rintro e W4 ⟨rfl, hb⟩
  rw [HD.out]
  have E := ext_trans E hb
  clear hb
  have gq : w.heap.size ≤ W4.heap.size := E.size
  go_wp2_with fail
  have Pq := Box.new W4 (1) (q) (⟨#[]⟩) 23
  have E := ext_alloc E (.cells #[.int .i64 (1), .int .i64 (q), .string (⟨#[]⟩)] 23)
  generalize (W4.alloc (.cells #[.int .i64 (1), .int .i64 (q), .string (⟨#[]⟩)] 23)) = G1 at *
  obtain ⟨lq, cq0, cq1, cq2, fq⟩ := id Pq
  go_region_held3 (fun w' => w'.cell? ⟨W4.heap.size, 0, none⟩ = some (.int .i64 (1)) ∧ w'.cell? ⟨W4.heap.size, 1, none⟩ = some (.int .i64 (q)) ∧ w'.cell? ⟨W4.heap.size, 2, none⟩ = some (.string (⟨#[]⟩)))
    (go_keep) (first | (go_at_call 33; go_must (refine (n_any _ _).mono ?_; rintro e W5 ⟨rfl, hb⟩; (first | (have Pq := Pq.drew.ext hb; have E := ext_trans (ext_drew (E)) hb) | (have Pp := (Box.new G1 0 0 ⟨#[]⟩ 23).drew.ext hb; have gp : w.heap.size ≤ G1.heap.size := E.size; have nqp := Nat.ne_of_lt Pq.lt; have mqp := Ne.symm nqp; have Pq := (Pq.alloc _).drew.ext hb; have E := ext_trans (ext_drew (ext_alloc E _)) hb)); clear hb; obtain ⟨lq, cq0, cq1, cq2, fq⟩ := id Pq; (try obtain ⟨lp, cp0, cp1, cp2, fp⟩ := id Pp))) | (go_at_call 15; go_must (refine (mul_any (num q) (num b) _ Hq.out Hb.out).mono ?_; rintro e W6 ⟨rfl, hb⟩; rw [HM.out]; (first | (have Pp := Pp.ext hb; have Pq := Pq.ext hb; have E := ext_trans (E) hb) | (have Pq := Pq.ext hb; have E := ext_trans (E) hb) | (have Pp := (Box.new W5 0 0 ⟨#[]⟩ 23).ext hb; have gp : w.heap.size ≤ W5.heap.size := E.size; have nqp := Nat.ne_of_lt Pq.lt; have mqp := Ne.symm nqp; have Pq := (Pq.alloc _).ext hb; have E := ext_trans (ext_alloc E _) hb)); clear hb; obtain ⟨lq, cq0, cq1, cq2, fq⟩ := id Pq; (try obtain ⟨lp, cp0, cp1, cp2, fp⟩ := id Pp))))
  all_goals go_wp2_with fail
  all_goals first
    | (have Pp : Box _ G1.heap.size _ := Pp.set (1) (p) (⟨#[]⟩)
       clear lq cq0 cq1 cq2 fq lp cp0 cp1 cp2 fp
       have Pq := Pq.far3 nqp (.int .i64 (1)) (.int .i64 (p)) (.string (⟨#[]⟩))
       have E := ext_set3 gp (.int .i64 (1)) (.int .i64 (p)) (.string (⟨#[]⟩)) E
       generalize (((W6.setCell ⟨G1.heap.size, 0, none⟩ (.int .i64 (1))).setCell ⟨G1.heap.size, 1, none⟩ (.int .i64 (p))).setCell ⟨G1.heap.size, 2, none⟩ (.string (⟨#[]⟩))) = G2 at *
       generalize G1.heap.size = bp at *)
    | (have Pp : Box _ W5.heap.size _ := Pp.set (1) (p) (⟨#[]⟩)
       clear lq cq0 cq1 cq2 fq lp cp0 cp1 cp2 fp
       have Pq := Pq.far3 nqp (.int .i64 (1)) (.int .i64 (p)) (.string (⟨#[]⟩))
       have E := ext_set3 gp (.int .i64 (1)) (.int .i64 (p)) (.string (⟨#[]⟩)) E
       generalize (((W6.setCell ⟨W5.heap.size, 0, none⟩ (.int .i64 (1))).setCell ⟨W5.heap.size, 1, none⟩ (.int .i64 (p))).setCell ⟨W5.heap.size, 2, none⟩ (.string (⟨#[]⟩))) = G2 at *
       generalize W5.heap.size = bp at *)
    | (clear lq cq0 cq1 cq2 fq
       have gp : w.heap.size ≤ W6.heap.size := E.size
       have nqp := Nat.ne_of_lt Pq.lt
       have Pq := Pq.alloc (.cells #[.int .i64 (1), .int .i64 (p), .string (⟨#[]⟩)] 23)
       have Pp := Box.new W6 (1) (p) (⟨#[]⟩) 23
       have E := ext_alloc E (.cells #[.int .i64 (1), .int .i64 (p), .string (⟨#[]⟩)] 23)
       generalize (W6.alloc (.cells #[.int .i64 (1), .int .i64 (p), .string (⟨#[]⟩)] 23)) = G2 at *
       generalize W6.heap.size = bp at *)
  all_goals obtain ⟨lq, cq0, cq1, cq2, fq⟩ := id Pq
  all_goals obtain ⟨lp, cp0, cp1, cp2, fp⟩ := id Pp
  all_goals (
    go_region_held3 (fun w' => w'.cell? ⟨bp, 0, none⟩ = some (.int .i64 (1)) ∧ w'.cell? ⟨bp, 1, none⟩ = some (.int .i64 (p)) ∧ w'.cell? ⟨bp, 2, none⟩ = some (.string (⟨#[]⟩)))
      (go_keep) (first | (go_at_call 33; go_must (refine (n_any _ _).mono ?_; rintro e W7 ⟨rfl, hb⟩; (first | (have Pq := Pq.drew.ext hb; have Pp := Pp.drew.ext hb; have E := ext_trans (ext_drew (E)) hb) | (have Pr := (Box.new G2 0 0 ⟨#[]⟩ 23).drew.ext hb; have gr : w.heap.size ≤ G2.heap.size := E.size; have nqr := Nat.ne_of_lt Pq.lt; have mqr := Ne.symm nqr; have npr := Nat.ne_of_lt Pp.lt; have mpr := Ne.symm npr; have Pq := (Pq.alloc _).drew.ext hb; have Pp := (Pp.alloc _).drew.ext hb; have E := ext_trans (ext_drew (ext_alloc E _)) hb)); clear hb; obtain ⟨lq, cq0, cq1, cq2, fq⟩ := id Pq; obtain ⟨lp, cp0, cp1, cp2, fp⟩ := id Pp; (try obtain ⟨lr, cr0, cr1, cr2, fr⟩ := id Pr))) | (go_at_call 13; go_must (refine (sub_any (num a) (num p) _ Ha.out Hp.out).mono ?_; rintro e W8 ⟨rfl, hb⟩; rw [HS.out]; (first | (have Pr := Pr.ext hb; have Pq := Pq.ext hb; have Pp := Pp.ext hb; have E := ext_trans (E) hb) | (have Pq := Pq.ext hb; have Pp := Pp.ext hb; have E := ext_trans (E) hb) | (have Pr := (Box.new W7 0 0 ⟨#[]⟩ 23).ext hb; have gr : w.heap.size ≤ W7.heap.size := E.size; have nqr := Nat.ne_of_lt Pq.lt; have mqr := Ne.symm nqr; have npr := Nat.ne_of_lt Pp.lt; have mpr := Ne.symm npr; have Pq := (Pq.alloc _).ext hb; have Pp := (Pp.alloc _).ext hb; have E := ext_trans (ext_alloc E _) hb)); clear hb; obtain ⟨lq, cq0, cq1, cq2, fq⟩ := id Pq; obtain ⟨lp, cp0, cp1, cp2, fp⟩ := id Pp; (try obtain ⟨lr, cr0, cr1, cr2, fr⟩ := id Pr))))
    all_goals go_wp2_with fail
    all_goals first
      | (have Pr : Box _ G2.heap.size _ := Pr.set (1) (r) (⟨#[]⟩)
         clear lq cq0 cq1 cq2 fq lp cp0 cp1 cp2 fp lr cr0 cr1 cr2 fr
         have Pq := Pq.far3 nqr (.int .i64 (1)) (.int .i64 (r)) (.string (⟨#[]⟩))
         have Pp := Pp.far3 npr (.int .i64 (1)) (.int .i64 (r)) (.string (⟨#[]⟩))
         have E := ext_set3 gr (.int .i64 (1)) (.int .i64 (r)) (.string (⟨#[]⟩)) E
         generalize (((W8.setCell ⟨G2.heap.size, 0, none⟩ (.int .i64 (1))).setCell ⟨G2.heap.size, 1, none⟩ (.int .i64 (r))).setCell ⟨G2.heap.size, 2, none⟩ (.string (⟨#[]⟩))) = G3 at *
         generalize G2.heap.size = br at *)
      | (have Pr : Box _ W7.heap.size _ := Pr.set (1) (r) (⟨#[]⟩)
         clear lq cq0 cq1 cq2 fq lp cp0 cp1 cp2 fp lr cr0 cr1 cr2 fr
         have Pq := Pq.far3 nqr (.int .i64 (1)) (.int .i64 (r)) (.string (⟨#[]⟩))
         have Pp := Pp.far3 npr (.int .i64 (1)) (.int .i64 (r)) (.string (⟨#[]⟩))
         have E := ext_set3 gr (.int .i64 (1)) (.int .i64 (r)) (.string (⟨#[]⟩)) E
         generalize (((W8.setCell ⟨W7.heap.size, 0, none⟩ (.int .i64 (1))).setCell ⟨W7.heap.size, 1, none⟩ (.int .i64 (r))).setCell ⟨W7.heap.size, 2, none⟩ (.string (⟨#[]⟩))) = G3 at *
         generalize W7.heap.size = br at *)
      | (clear lq cq0 cq1 cq2 fq lp cp0 cp1 cp2 fp
         have gr : w.heap.size ≤ W8.heap.size := E.size
         have nqr := Nat.ne_of_lt Pq.lt
         have npr := Nat.ne_of_lt Pp.lt
         have Pq := Pq.alloc (.cells #[.int .i64 (1), .int .i64 (r), .string (⟨#[]⟩)] 23)
         have Pp := Pp.alloc (.cells #[.int .i64 (1), .int .i64 (r), .string (⟨#[]⟩)] 23)
         have Pr := Box.new W8 (1) (r) (⟨#[]⟩) 23
         have E := ext_alloc E (.cells #[.int .i64 (1), .int .i64 (r), .string (⟨#[]⟩)] 23)
         generalize (W8.alloc (.cells #[.int .i64 (1), .int .i64 (r), .string (⟨#[]⟩)] 23)) = G3 at *
         generalize W8.heap.size = br at *)
    all_goals obtain ⟨lq, cq0, cq1, cq2, fq⟩ := id Pq
    all_goals obtain ⟨lp, cp0, cp1, cp2, fp⟩ := id Pp
    all_goals obtain ⟨lr, cr0, cr1, cr2, fr⟩ := id Pr
    all_goals go_wp2_with fail
    all_goals go_ret
    all_goals refine ⟨by first | rfl | (simp; done) | (simp; omega), ?_⟩
    all_goals (repeat (first | exact ext_refl _ | assumption | (refine ext_alloc ?_ _) | (refine ext_drewN ?_ _) | refine ext_drew ?_ | (refine ext_set (by first | (simp; done) | (simp; omega)) _ ?_) | (refine ext_trans ?_ (by assumption)))))

set_option maxHeartbeats 4000000 in
theorem rest_way1 (a : Int) (b : Int) (q p r : Int) (w : World) (ha : inR a = true) (hb : inR b = true) (hq : inR q = true) (hp : inR p = true) (hD : arith 7 (num a) (num b) = (num q, 0)) (hM : arith 6 (num q) (num b) = (num p, 0)) (hS : arith 5 (num a) (num p) = (num r, 0))
    (b0 : -9223372036854775808 ≤ b) (b1 : b ≤ 9223372036854775807) (s0 : 0 ≤ a) (s1 : 0 ≤ r) (u0 : b < 0) (u1 : b < r) (u2 : r < -b) (u3 : (b == -9223372036854775808) = false) (u4 : -9223372036854775807 ≤ b) : Calls Try.prog 7 #[.int .i64 a, .int .i64 b] w fun e w' => e = .returned (.bool true) ∧ Below w.heap.size w w' := by
  have HD := Lib.hid hD
  have HM := Lib.hid hM
  have HS := Lib.hid hS
  have Ha := Lib.hid ha
  have Hb := Lib.hid hb
  have Hq := Lib.hid hq
  have Hp := Lib.hid hp
  clear hD hM hS ha hb hq hp
  have E := ext_refl w
  go_enter Try.func7, Try.ntmps7
  go_wp2_with fail
  refine (examples_any _).mono ?_
  rintro e W1 ⟨rfl, hb⟩
  have E := ext_trans E hb
  clear hb
  go_wp2_with fail
  refine (n_any _ _).mono ?_
  rintro e W2 ⟨rfl, hb⟩
  have E := ext_trans E hb
  clear hb
  go_wp2_with fail
  refine (n_any _ _).mono ?_
  rintro e W3 ⟨rfl, hb⟩
  have E := ext_trans E hb
  clear hb
  go_wp2_with fail
  refine (div_any (num a) (num b) _ Ha.out Hb.out).mono ?_
  rintro e W4 ⟨rfl, hb⟩
  rw [HD.out]
  have E := ext_trans E hb
  clear hb
  have gq : w.heap.size ≤ W4.heap.size := E.size
  go_wp2_with fail
  have Pq := Box.new W4 (1) (q) (⟨#[]⟩) 23
  have E := ext_alloc E (.cells #[.int .i64 (1), .int .i64 (q), .string (⟨#[]⟩)] 23)
  generalize (W4.alloc (.cells #[.int .i64 (1), .int .i64 (q), .string (⟨#[]⟩)] 23)) = G1 at *
  obtain ⟨lq, cq0, cq1, cq2, fq⟩ := id Pq
  go_region_held3 (fun w' => w'.cell? ⟨W4.heap.size, 0, none⟩ = some (.int .i64 (1)) ∧ w'.cell? ⟨W4.heap.size, 1, none⟩ = some (.int .i64 (q)) ∧ w'.cell? ⟨W4.heap.size, 2, none⟩ = some (.string (⟨#[]⟩)))
    (go_keep) (first | (go_at_call 33; go_must (refine (n_any _ _).mono ?_; rintro e W5 ⟨rfl, hb⟩; (first | (have Pq := Pq.drew.ext hb; have E := ext_trans (ext_drew (E)) hb) | (have Pp := (Box.new G1 0 0 ⟨#[]⟩ 23).drew.ext hb; have gp : w.heap.size ≤ G1.heap.size := E.size; have nqp := Nat.ne_of_lt Pq.lt; have mqp := Ne.symm nqp; have Pq := (Pq.alloc _).drew.ext hb; have E := ext_trans (ext_drew (ext_alloc E _)) hb)); clear hb; obtain ⟨lq, cq0, cq1, cq2, fq⟩ := id Pq; (try obtain ⟨lp, cp0, cp1, cp2, fp⟩ := id Pp))) | (go_at_call 15; go_must (refine (mul_any (num q) (num b) _ Hq.out Hb.out).mono ?_; rintro e W6 ⟨rfl, hb⟩; rw [HM.out]; (first | (have Pp := Pp.ext hb; have Pq := Pq.ext hb; have E := ext_trans (E) hb) | (have Pq := Pq.ext hb; have E := ext_trans (E) hb) | (have Pp := (Box.new W5 0 0 ⟨#[]⟩ 23).ext hb; have gp : w.heap.size ≤ W5.heap.size := E.size; have nqp := Nat.ne_of_lt Pq.lt; have mqp := Ne.symm nqp; have Pq := (Pq.alloc _).ext hb; have E := ext_trans (ext_alloc E _) hb)); clear hb; obtain ⟨lq, cq0, cq1, cq2, fq⟩ := id Pq; (try obtain ⟨lp, cp0, cp1, cp2, fp⟩ := id Pp))))
  all_goals go_wp2_with fail
  all_goals first
    | (have Pp : Box _ G1.heap.size _ := Pp.set (1) (p) (⟨#[]⟩)
       clear lq cq0 cq1 cq2 fq lp cp0 cp1 cp2 fp
       have Pq := Pq.far3 nqp (.int .i64 (1)) (.int .i64 (p)) (.string (⟨#[]⟩))
       have E := ext_set3 gp (.int .i64 (1)) (.int .i64 (p)) (.string (⟨#[]⟩)) E
       generalize (((W6.setCell ⟨G1.heap.size, 0, none⟩ (.int .i64 (1))).setCell ⟨G1.heap.size, 1, none⟩ (.int .i64 (p))).setCell ⟨G1.heap.size, 2, none⟩ (.string (⟨#[]⟩))) = G2 at *
       generalize G1.heap.size = bp at *)
    | (have Pp : Box _ W5.heap.size _ := Pp.set (1) (p) (⟨#[]⟩)
       clear lq cq0 cq1 cq2 fq lp cp0 cp1 cp2 fp
       have Pq := Pq.far3 nqp (.int .i64 (1)) (.int .i64 (p)) (.string (⟨#[]⟩))
       have E := ext_set3 gp (.int .i64 (1)) (.int .i64 (p)) (.string (⟨#[]⟩)) E
       generalize (((W6.setCell ⟨W5.heap.size, 0, none⟩ (.int .i64 (1))).setCell ⟨W5.heap.size, 1, none⟩ (.int .i64 (p))).setCell ⟨W5.heap.size, 2, none⟩ (.string (⟨#[]⟩))) = G2 at *
       generalize W5.heap.size = bp at *)
    | (clear lq cq0 cq1 cq2 fq
       have gp : w.heap.size ≤ W6.heap.size := E.size
       have nqp := Nat.ne_of_lt Pq.lt
       have Pq := Pq.alloc (.cells #[.int .i64 (1), .int .i64 (p), .string (⟨#[]⟩)] 23)
       have Pp := Box.new W6 (1) (p) (⟨#[]⟩) 23
       have E := ext_alloc E (.cells #[.int .i64 (1), .int .i64 (p), .string (⟨#[]⟩)] 23)
       generalize (W6.alloc (.cells #[.int .i64 (1), .int .i64 (p), .string (⟨#[]⟩)] 23)) = G2 at *
       generalize W6.heap.size = bp at *)
  all_goals obtain ⟨lq, cq0, cq1, cq2, fq⟩ := id Pq
  all_goals obtain ⟨lp, cp0, cp1, cp2, fp⟩ := id Pp
  all_goals (
    go_region_held3 (fun w' => w'.cell? ⟨bp, 0, none⟩ = some (.int .i64 (1)) ∧ w'.cell? ⟨bp, 1, none⟩ = some (.int .i64 (p)) ∧ w'.cell? ⟨bp, 2, none⟩ = some (.string (⟨#[]⟩)))
      (go_keep) (first | (go_at_call 33; go_must (refine (n_any _ _).mono ?_; rintro e W7 ⟨rfl, hb⟩; (first | (have Pq := Pq.drew.ext hb; have Pp := Pp.drew.ext hb; have E := ext_trans (ext_drew (E)) hb) | (have Pr := (Box.new G2 0 0 ⟨#[]⟩ 23).drew.ext hb; have gr : w.heap.size ≤ G2.heap.size := E.size; have nqr := Nat.ne_of_lt Pq.lt; have mqr := Ne.symm nqr; have npr := Nat.ne_of_lt Pp.lt; have mpr := Ne.symm npr; have Pq := (Pq.alloc _).drew.ext hb; have Pp := (Pp.alloc _).drew.ext hb; have E := ext_trans (ext_drew (ext_alloc E _)) hb)); clear hb; obtain ⟨lq, cq0, cq1, cq2, fq⟩ := id Pq; obtain ⟨lp, cp0, cp1, cp2, fp⟩ := id Pp; (try obtain ⟨lr, cr0, cr1, cr2, fr⟩ := id Pr))) | (go_at_call 13; go_must (refine (sub_any (num a) (num p) _ Ha.out Hp.out).mono ?_; rintro e W8 ⟨rfl, hb⟩; rw [HS.out]; (first | (have Pr := Pr.ext hb; have Pq := Pq.ext hb; have Pp := Pp.ext hb; have E := ext_trans (E) hb) | (have Pq := Pq.ext hb; have Pp := Pp.ext hb; have E := ext_trans (E) hb) | (have Pr := (Box.new W7 0 0 ⟨#[]⟩ 23).ext hb; have gr : w.heap.size ≤ W7.heap.size := E.size; have nqr := Nat.ne_of_lt Pq.lt; have mqr := Ne.symm nqr; have npr := Nat.ne_of_lt Pp.lt; have mpr := Ne.symm npr; have Pq := (Pq.alloc _).ext hb; have Pp := (Pp.alloc _).ext hb; have E := ext_trans (ext_alloc E _) hb)); clear hb; obtain ⟨lq, cq0, cq1, cq2, fq⟩ := id Pq; obtain ⟨lp, cp0, cp1, cp2, fp⟩ := id Pp; (try obtain ⟨lr, cr0, cr1, cr2, fr⟩ := id Pr))))
    all_goals go_wp2_with fail
    all_goals first
      | (have Pr : Box _ G2.heap.size _ := Pr.set (1) (r) (⟨#[]⟩)
         clear lq cq0 cq1 cq2 fq lp cp0 cp1 cp2 fp lr cr0 cr1 cr2 fr
         have Pq := Pq.far3 nqr (.int .i64 (1)) (.int .i64 (r)) (.string (⟨#[]⟩))
         have Pp := Pp.far3 npr (.int .i64 (1)) (.int .i64 (r)) (.string (⟨#[]⟩))
         have E := ext_set3 gr (.int .i64 (1)) (.int .i64 (r)) (.string (⟨#[]⟩)) E
         generalize (((W8.setCell ⟨G2.heap.size, 0, none⟩ (.int .i64 (1))).setCell ⟨G2.heap.size, 1, none⟩ (.int .i64 (r))).setCell ⟨G2.heap.size, 2, none⟩ (.string (⟨#[]⟩))) = G3 at *
         generalize G2.heap.size = br at *)
      | (have Pr : Box _ W7.heap.size _ := Pr.set (1) (r) (⟨#[]⟩)
         clear lq cq0 cq1 cq2 fq lp cp0 cp1 cp2 fp lr cr0 cr1 cr2 fr
         have Pq := Pq.far3 nqr (.int .i64 (1)) (.int .i64 (r)) (.string (⟨#[]⟩))
         have Pp := Pp.far3 npr (.int .i64 (1)) (.int .i64 (r)) (.string (⟨#[]⟩))
         have E := ext_set3 gr (.int .i64 (1)) (.int .i64 (r)) (.string (⟨#[]⟩)) E
         generalize (((W8.setCell ⟨W7.heap.size, 0, none⟩ (.int .i64 (1))).setCell ⟨W7.heap.size, 1, none⟩ (.int .i64 (r))).setCell ⟨W7.heap.size, 2, none⟩ (.string (⟨#[]⟩))) = G3 at *
         generalize W7.heap.size = br at *)
      | (clear lq cq0 cq1 cq2 fq lp cp0 cp1 cp2 fp
         have gr : w.heap.size ≤ W8.heap.size := E.size
         have nqr := Nat.ne_of_lt Pq.lt
         have npr := Nat.ne_of_lt Pp.lt
         have Pq := Pq.alloc (.cells #[.int .i64 (1), .int .i64 (r), .string (⟨#[]⟩)] 23)
         have Pp := Pp.alloc (.cells #[.int .i64 (1), .int .i64 (r), .string (⟨#[]⟩)] 23)
         have Pr := Box.new W8 (1) (r) (⟨#[]⟩) 23
         have E := ext_alloc E (.cells #[.int .i64 (1), .int .i64 (r), .string (⟨#[]⟩)] 23)
         generalize (W8.alloc (.cells #[.int .i64 (1), .int .i64 (r), .string (⟨#[]⟩)] 23)) = G3 at *
         generalize W8.heap.size = br at *)
    all_goals obtain ⟨lq, cq0, cq1, cq2, fq⟩ := id Pq
    all_goals obtain ⟨lp, cp0, cp1, cp2, fp⟩ := id Pp
    all_goals obtain ⟨lr, cr0, cr1, cr2, fr⟩ := id Pr
    all_goals go_wp2_with fail
    all_goals go_ret
    all_goals refine ⟨by first | rfl | (simp; done) | (simp; omega), ?_⟩
    all_goals (repeat (first | exact ext_refl _ | assumption | (refine ext_alloc ?_ _) | (refine ext_drewN ?_ _) | refine ext_drew ?_ | (refine ext_set (by first | (simp; done) | (simp; omega)) _ ?_) | (refine ext_trans ?_ (by assumption)))))

set_option maxHeartbeats 4000000 in
theorem rest_way2 (a : Int) (q p r : Int) (w : World) (ha : inR a = true) (hb : inR (-9223372036854775808) = true) (hq : inR q = true) (hp : inR p = true) (hD : arith 7 (num a) (num (-9223372036854775808)) = (num q, 0)) (hM : arith 6 (num q) (num (-9223372036854775808)) = (num p, 0)) (hS : arith 5 (num a) (num p) = (num r, 0))
    (s0 : 0 ≤ a) (s1 : 0 ≤ r) (u0 : -9223372036854775808 < r) : Calls Try.prog 7 #[.int .i64 a, .int .i64 (-9223372036854775808)] w fun e w' => e = .returned (.bool true) ∧ Below w.heap.size w w' := by
  have HD := Lib.hid hD
  have HM := Lib.hid hM
  have HS := Lib.hid hS
  have Ha := Lib.hid ha
  have Hb := Lib.hid hb
  have Hq := Lib.hid hq
  have Hp := Lib.hid hp
  clear hD hM hS ha hb hq hp
  have E := ext_refl w
  go_enter Try.func7, Try.ntmps7
  go_wp2_with fail
  refine (examples_any _).mono ?_
  rintro e W1 ⟨rfl, hb⟩
  have E := ext_trans E hb
  clear hb
  go_wp2_with fail
  refine (n_any _ _).mono ?_
  rintro e W2 ⟨rfl, hb⟩
  have E := ext_trans E hb
  clear hb
  go_wp2_with fail
  refine (n_any _ _).mono ?_
  rintro e W3 ⟨rfl, hb⟩
  have E := ext_trans E hb
  clear hb
  go_wp2_with fail
  refine (div_any (num a) (num (-9223372036854775808)) _ Ha.out Hb.out).mono ?_
  rintro e W4 ⟨rfl, hb⟩
  rw [HD.out]
  have E := ext_trans E hb
  clear hb
  have gq : w.heap.size ≤ W4.heap.size := E.size
  go_wp2_with fail
  have Pq := Box.new W4 (1) (q) (⟨#[]⟩) 23
  have E := ext_alloc E (.cells #[.int .i64 (1), .int .i64 (q), .string (⟨#[]⟩)] 23)
  generalize (W4.alloc (.cells #[.int .i64 (1), .int .i64 (q), .string (⟨#[]⟩)] 23)) = G1 at *
  obtain ⟨lq, cq0, cq1, cq2, fq⟩ := id Pq
  go_region_held3 (fun w' => w'.cell? ⟨W4.heap.size, 0, none⟩ = some (.int .i64 (1)) ∧ w'.cell? ⟨W4.heap.size, 1, none⟩ = some (.int .i64 (q)) ∧ w'.cell? ⟨W4.heap.size, 2, none⟩ = some (.string (⟨#[]⟩)))
    (go_keep) (first | (go_at_call 33; go_must (refine (n_any _ _).mono ?_; rintro e W5 ⟨rfl, hb⟩; (first | (have Pq := Pq.drew.ext hb; have E := ext_trans (ext_drew (E)) hb) | (have Pp := (Box.new G1 0 0 ⟨#[]⟩ 23).drew.ext hb; have gp : w.heap.size ≤ G1.heap.size := E.size; have nqp := Nat.ne_of_lt Pq.lt; have mqp := Ne.symm nqp; have Pq := (Pq.alloc _).drew.ext hb; have E := ext_trans (ext_drew (ext_alloc E _)) hb)); clear hb; obtain ⟨lq, cq0, cq1, cq2, fq⟩ := id Pq; (try obtain ⟨lp, cp0, cp1, cp2, fp⟩ := id Pp))) | (go_at_call 15; go_must (refine (mul_any (num q) (num (-9223372036854775808)) _ Hq.out Hb.out).mono ?_; rintro e W6 ⟨rfl, hb⟩; rw [HM.out]; (first | (have Pp := Pp.ext hb; have Pq := Pq.ext hb; have E := ext_trans (E) hb) | (have Pq := Pq.ext hb; have E := ext_trans (E) hb) | (have Pp := (Box.new W5 0 0 ⟨#[]⟩ 23).ext hb; have gp : w.heap.size ≤ W5.heap.size := E.size; have nqp := Nat.ne_of_lt Pq.lt; have mqp := Ne.symm nqp; have Pq := (Pq.alloc _).ext hb; have E := ext_trans (ext_alloc E _) hb)); clear hb; obtain ⟨lq, cq0, cq1, cq2, fq⟩ := id Pq; (try obtain ⟨lp, cp0, cp1, cp2, fp⟩ := id Pp))))
  all_goals go_wp2_with fail
  all_goals first
    | (have Pp : Box _ G1.heap.size _ := Pp.set (1) (p) (⟨#[]⟩)
       clear lq cq0 cq1 cq2 fq lp cp0 cp1 cp2 fp
       have Pq := Pq.far3 nqp (.int .i64 (1)) (.int .i64 (p)) (.string (⟨#[]⟩))
       have E := ext_set3 gp (.int .i64 (1)) (.int .i64 (p)) (.string (⟨#[]⟩)) E
       generalize (((W6.setCell ⟨G1.heap.size, 0, none⟩ (.int .i64 (1))).setCell ⟨G1.heap.size, 1, none⟩ (.int .i64 (p))).setCell ⟨G1.heap.size, 2, none⟩ (.string (⟨#[]⟩))) = G2 at *
       generalize G1.heap.size = bp at *)
    | (have Pp : Box _ W5.heap.size _ := Pp.set (1) (p) (⟨#[]⟩)
       clear lq cq0 cq1 cq2 fq lp cp0 cp1 cp2 fp
       have Pq := Pq.far3 nqp (.int .i64 (1)) (.int .i64 (p)) (.string (⟨#[]⟩))
       have E := ext_set3 gp (.int .i64 (1)) (.int .i64 (p)) (.string (⟨#[]⟩)) E
       generalize (((W6.setCell ⟨W5.heap.size, 0, none⟩ (.int .i64 (1))).setCell ⟨W5.heap.size, 1, none⟩ (.int .i64 (p))).setCell ⟨W5.heap.size, 2, none⟩ (.string (⟨#[]⟩))) = G2 at *
       generalize W5.heap.size = bp at *)
    | (clear lq cq0 cq1 cq2 fq
       have gp : w.heap.size ≤ W6.heap.size := E.size
       have nqp := Nat.ne_of_lt Pq.lt
       have Pq := Pq.alloc (.cells #[.int .i64 (1), .int .i64 (p), .string (⟨#[]⟩)] 23)
       have Pp := Box.new W6 (1) (p) (⟨#[]⟩) 23
       have E := ext_alloc E (.cells #[.int .i64 (1), .int .i64 (p), .string (⟨#[]⟩)] 23)
       generalize (W6.alloc (.cells #[.int .i64 (1), .int .i64 (p), .string (⟨#[]⟩)] 23)) = G2 at *
       generalize W6.heap.size = bp at *)
  all_goals obtain ⟨lq, cq0, cq1, cq2, fq⟩ := id Pq
  all_goals obtain ⟨lp, cp0, cp1, cp2, fp⟩ := id Pp
  all_goals (
    go_region_held3 (fun w' => w'.cell? ⟨bp, 0, none⟩ = some (.int .i64 (1)) ∧ w'.cell? ⟨bp, 1, none⟩ = some (.int .i64 (p)) ∧ w'.cell? ⟨bp, 2, none⟩ = some (.string (⟨#[]⟩)))
      (go_keep) (first | (go_at_call 33; go_must (refine (n_any _ _).mono ?_; rintro e W7 ⟨rfl, hb⟩; (first | (have Pq := Pq.drew.ext hb; have Pp := Pp.drew.ext hb; have E := ext_trans (ext_drew (E)) hb) | (have Pr := (Box.new G2 0 0 ⟨#[]⟩ 23).drew.ext hb; have gr : w.heap.size ≤ G2.heap.size := E.size; have nqr := Nat.ne_of_lt Pq.lt; have mqr := Ne.symm nqr; have npr := Nat.ne_of_lt Pp.lt; have mpr := Ne.symm npr; have Pq := (Pq.alloc _).drew.ext hb; have Pp := (Pp.alloc _).drew.ext hb; have E := ext_trans (ext_drew (ext_alloc E _)) hb)); clear hb; obtain ⟨lq, cq0, cq1, cq2, fq⟩ := id Pq; obtain ⟨lp, cp0, cp1, cp2, fp⟩ := id Pp; (try obtain ⟨lr, cr0, cr1, cr2, fr⟩ := id Pr))) | (go_at_call 13; go_must (refine (sub_any (num a) (num p) _ Ha.out Hp.out).mono ?_; rintro e W8 ⟨rfl, hb⟩; rw [HS.out]; (first | (have Pr := Pr.ext hb; have Pq := Pq.ext hb; have Pp := Pp.ext hb; have E := ext_trans (E) hb) | (have Pq := Pq.ext hb; have Pp := Pp.ext hb; have E := ext_trans (E) hb) | (have Pr := (Box.new W7 0 0 ⟨#[]⟩ 23).ext hb; have gr : w.heap.size ≤ W7.heap.size := E.size; have nqr := Nat.ne_of_lt Pq.lt; have mqr := Ne.symm nqr; have npr := Nat.ne_of_lt Pp.lt; have mpr := Ne.symm npr; have Pq := (Pq.alloc _).ext hb; have Pp := (Pp.alloc _).ext hb; have E := ext_trans (ext_alloc E _) hb)); clear hb; obtain ⟨lq, cq0, cq1, cq2, fq⟩ := id Pq; obtain ⟨lp, cp0, cp1, cp2, fp⟩ := id Pp; (try obtain ⟨lr, cr0, cr1, cr2, fr⟩ := id Pr))))
    all_goals go_wp2_with fail
    all_goals first
      | (have Pr : Box _ G2.heap.size _ := Pr.set (1) (r) (⟨#[]⟩)
         clear lq cq0 cq1 cq2 fq lp cp0 cp1 cp2 fp lr cr0 cr1 cr2 fr
         have Pq := Pq.far3 nqr (.int .i64 (1)) (.int .i64 (r)) (.string (⟨#[]⟩))
         have Pp := Pp.far3 npr (.int .i64 (1)) (.int .i64 (r)) (.string (⟨#[]⟩))
         have E := ext_set3 gr (.int .i64 (1)) (.int .i64 (r)) (.string (⟨#[]⟩)) E
         generalize (((W8.setCell ⟨G2.heap.size, 0, none⟩ (.int .i64 (1))).setCell ⟨G2.heap.size, 1, none⟩ (.int .i64 (r))).setCell ⟨G2.heap.size, 2, none⟩ (.string (⟨#[]⟩))) = G3 at *
         generalize G2.heap.size = br at *)
      | (have Pr : Box _ W7.heap.size _ := Pr.set (1) (r) (⟨#[]⟩)
         clear lq cq0 cq1 cq2 fq lp cp0 cp1 cp2 fp lr cr0 cr1 cr2 fr
         have Pq := Pq.far3 nqr (.int .i64 (1)) (.int .i64 (r)) (.string (⟨#[]⟩))
         have Pp := Pp.far3 npr (.int .i64 (1)) (.int .i64 (r)) (.string (⟨#[]⟩))
         have E := ext_set3 gr (.int .i64 (1)) (.int .i64 (r)) (.string (⟨#[]⟩)) E
         generalize (((W8.setCell ⟨W7.heap.size, 0, none⟩ (.int .i64 (1))).setCell ⟨W7.heap.size, 1, none⟩ (.int .i64 (r))).setCell ⟨W7.heap.size, 2, none⟩ (.string (⟨#[]⟩))) = G3 at *
         generalize W7.heap.size = br at *)
      | (clear lq cq0 cq1 cq2 fq lp cp0 cp1 cp2 fp
         have gr : w.heap.size ≤ W8.heap.size := E.size
         have nqr := Nat.ne_of_lt Pq.lt
         have npr := Nat.ne_of_lt Pp.lt
         have Pq := Pq.alloc (.cells #[.int .i64 (1), .int .i64 (r), .string (⟨#[]⟩)] 23)
         have Pp := Pp.alloc (.cells #[.int .i64 (1), .int .i64 (r), .string (⟨#[]⟩)] 23)
         have Pr := Box.new W8 (1) (r) (⟨#[]⟩) 23
         have E := ext_alloc E (.cells #[.int .i64 (1), .int .i64 (r), .string (⟨#[]⟩)] 23)
         generalize (W8.alloc (.cells #[.int .i64 (1), .int .i64 (r), .string (⟨#[]⟩)] 23)) = G3 at *
         generalize W8.heap.size = br at *)
    all_goals obtain ⟨lq, cq0, cq1, cq2, fq⟩ := id Pq
    all_goals obtain ⟨lp, cp0, cp1, cp2, fp⟩ := id Pp
    all_goals obtain ⟨lr, cr0, cr1, cr2, fr⟩ := id Pr
    all_goals go_wp2_with fail
    all_goals go_ret
    all_goals refine ⟨by first | rfl | (simp; done) | (simp; omega), ?_⟩
    all_goals (repeat (first | exact ext_refl _ | assumption | (refine ext_alloc ?_ _) | (refine ext_drewN ?_ _) | refine ext_drew ?_ | (refine ext_set (by first | (simp; done) | (simp; omega)) _ ?_) | (refine ext_trans ?_ (by assumption)))))

end Go.Proofs.Ytklbomfcejgbmaa
