/- What the document's own Test answers. -/
import Derived.Test.YthdnbcdcfaocmaaDoorValH
namespace Go.Proofs.YthdnbcdcfaocmaaDoor
open Go.RowKit
set_option maxRecDepth 100000

set_option maxHeartbeats 400000 in
theorem rtest_low (op k n l m : Int) (s t : ByteArray) (w : World) (b c : Bool) (h : op < 9) (h1 : Val.right ⟨k, n, s⟩ = b) (h2 : Val.right ⟨l, m, t⟩ = c) :
    Calls Tryd.prog 95 #[.int .i64 op, (Val.mk k n s).v, (Val.mk l m t).v] w fun e w' => e = .returned (.tuple #[nul.v, .int .i64 1]) ∧ Below w.heap.size w w' := by
  have H1 := Lib.hid h1
  have H2 := Lib.hid h2
  clear h1 h2
  go_enter Tryd.func95, Tryd.ntmps95
  go_wp2_with (first | (go_at_call 73; go_must (refine (rright_any ⟨_, _, _⟩ _).mono ?_; rintro e w1 ⟨rfl, hb⟩; obtain ⟨hc, hz, hf⟩ := kept hb; have hz2 : w.heap.size + 1 + 1 < w1.heap.size := hz _ (by first | (simp; done) | (simp; omega) | assumption); have hz1 : w.heap.size + 1 < w1.heap.size := hz _ (by first | (simp; done) | (simp; omega) | assumption); have hz0 : w.heap.size < w1.heap.size := hz _ (by first | (simp; done) | (simp; omega) | assumption); first | rw [H1.out] | rw [H2.out])))
  (refine bodyPost_ret (v := .tuple #[nul.v, .int .i64 1]) (by simp [results, Tryd.results95, go_sem, *]) rfl ⟨by (rfl), ?_⟩; (repeat (first | exact ext_refl _ | assumption | (refine ext_alloc ?_ _) | (refine ext_drewN ?_ _) | refine ext_drew ?_ | (refine ext_set (by first | (simp; done) | (simp; omega)) _ ?_) | (refine ext_trans ?_ (by assumption)))))

set_option maxHeartbeats 400000 in
theorem rtest_high (op k n l m : Int) (s t : ByteArray) (w : World) (b c : Bool) (h : 9 ≤ op) (h' : 14 < op) (h1 : Val.right ⟨k, n, s⟩ = b) (h2 : Val.right ⟨l, m, t⟩ = c) :
    Calls Tryd.prog 95 #[.int .i64 op, (Val.mk k n s).v, (Val.mk l m t).v] w fun e w' => e = .returned (.tuple #[nul.v, .int .i64 1]) ∧ Below w.heap.size w w' := by
  have H1 := Lib.hid h1
  have H2 := Lib.hid h2
  clear h1 h2
  go_enter Tryd.func95, Tryd.ntmps95
  go_wp2_with (first | (go_at_call 73; go_must (refine (rright_any ⟨_, _, _⟩ _).mono ?_; rintro e w1 ⟨rfl, hb⟩; obtain ⟨hc, hz, hf⟩ := kept hb; have hz2 : w.heap.size + 1 + 1 < w1.heap.size := hz _ (by first | (simp; done) | (simp; omega) | assumption); have hz1 : w.heap.size + 1 < w1.heap.size := hz _ (by first | (simp; done) | (simp; omega) | assumption); have hz0 : w.heap.size < w1.heap.size := hz _ (by first | (simp; done) | (simp; omega) | assumption); first | rw [H1.out] | rw [H2.out])))
  (refine bodyPost_ret (v := .tuple #[nul.v, .int .i64 1]) (by simp [results, Tryd.results95, go_sem, *]) rfl ⟨by (rfl), ?_⟩; (repeat (first | exact ext_refl _ | assumption | (refine ext_alloc ?_ _) | (refine ext_drewN ?_ _) | refine ext_drew ?_ | (refine ext_set (by first | (simp; done) | (simp; omega)) _ ?_) | (refine ext_trans ?_ (by assumption)))))

set_option maxHeartbeats 400000 in
theorem rtest_one (op k n l m : Int) (s t : ByteArray) (w : World) (b c : Bool) (h : 9 ≤ op) (h' : op ≤ 14) (hb : b = false) (h1 : Val.right ⟨k, n, s⟩ = b) (h2 : Val.right ⟨l, m, t⟩ = c) :
    Calls Tryd.prog 95 #[.int .i64 op, (Val.mk k n s).v, (Val.mk l m t).v] w fun e w' => e = .returned (.tuple #[nul.v, .int .i64 1]) ∧ Below w.heap.size w w' := by
  subst hb
  have H1 := Lib.hid h1
  have H2 := Lib.hid h2
  clear h1 h2
  go_enter Tryd.func95, Tryd.ntmps95
  go_wp2_with (first | (go_at_call 73; go_must (refine (rright_any ⟨_, _, _⟩ _).mono ?_; rintro e w1 ⟨rfl, hb⟩; obtain ⟨hc, hz, hf⟩ := kept hb; have hz2 : w.heap.size + 1 + 1 < w1.heap.size := hz _ (by first | (simp; done) | (simp; omega) | assumption); have hz1 : w.heap.size + 1 < w1.heap.size := hz _ (by first | (simp; done) | (simp; omega) | assumption); have hz0 : w.heap.size < w1.heap.size := hz _ (by first | (simp; done) | (simp; omega) | assumption); first | rw [H1.out] | rw [H2.out])))
  (refine bodyPost_ret (v := .tuple #[nul.v, .int .i64 1]) (by simp [results, Tryd.results95, go_sem, *]) rfl ⟨by (rfl), ?_⟩; (repeat (first | exact ext_refl _ | assumption | (refine ext_alloc ?_ _) | (refine ext_drewN ?_ _) | refine ext_drew ?_ | (refine ext_set (by first | (simp; done) | (simp; omega)) _ ?_) | (refine ext_trans ?_ (by assumption)))))

set_option maxHeartbeats 400000 in
theorem rtest_two (op k n l m : Int) (s t : ByteArray) (w : World) (b c : Bool) (h : 9 ≤ op) (h' : op ≤ 14) (hb : b = true) (hc : c = false) (h1 : Val.right ⟨k, n, s⟩ = b) (h2 : Val.right ⟨l, m, t⟩ = c) :
    Calls Tryd.prog 95 #[.int .i64 op, (Val.mk k n s).v, (Val.mk l m t).v] w fun e w' => e = .returned (.tuple #[nul.v, .int .i64 1]) ∧ Below w.heap.size w w' := by
  subst hb hc
  have H1 := Lib.hid h1
  have H2 := Lib.hid h2
  clear h1 h2
  go_enter Tryd.func95, Tryd.ntmps95
  go_wp2_with (first | (go_at_call 73; go_must (refine (rright_any ⟨_, _, _⟩ _).mono ?_; rintro e w1 ⟨rfl, hb⟩; obtain ⟨hc, hz, hf⟩ := kept hb; have hz2 : w.heap.size + 1 + 1 < w1.heap.size := hz _ (by first | (simp; done) | (simp; omega) | assumption); have hz1 : w.heap.size + 1 < w1.heap.size := hz _ (by first | (simp; done) | (simp; omega) | assumption); have hz0 : w.heap.size < w1.heap.size := hz _ (by first | (simp; done) | (simp; omega) | assumption); first | rw [H1.out] | rw [H2.out])))
  (refine bodyPost_ret (v := .tuple #[nul.v, .int .i64 1]) (by simp [results, Tryd.results95, go_sem, *]) rfl ⟨by (rfl), ?_⟩; (repeat (first | exact ext_refl _ | assumption | (refine ext_alloc ?_ _) | (refine ext_drewN ?_ _) | refine ext_drew ?_ | (refine ext_set (by first | (simp; done) | (simp; omega)) _ ?_) | (refine ext_trans ?_ (by assumption)))))

set_option maxHeartbeats 400000 in
theorem rtest_kinds (op k n l m : Int) (s t : ByteArray) (w : World) (b c : Bool) (h : 9 ≤ op) (h' : op ≤ 14) (hb : b = true) (hc : c = true) (h3 : (k == 0) = false) (h4 : (l == 0) = false) (h5 : (k != l) = true) (h1 : Val.right ⟨k, n, s⟩ = b) (h2 : Val.right ⟨l, m, t⟩ = c) :
    Calls Tryd.prog 95 #[.int .i64 op, (Val.mk k n s).v, (Val.mk l m t).v] w fun e w' => e = .returned (.tuple #[nul.v, .int .i64 1]) ∧ Below w.heap.size w w' := by
  subst hb hc
  have h6 : (k != 0) = true := by rw [bne, h3]; rfl
  have h7 : (l != 0) = true := by rw [bne, h4]; rfl
  have H1 := Lib.hid h1
  have H2 := Lib.hid h2
  clear h1 h2
  go_enter Tryd.func95, Tryd.ntmps95
  go_wp2_with (first | (go_at_call 73; go_must (refine (rright_any ⟨_, _, _⟩ _).mono ?_; rintro e w1 ⟨rfl, hb⟩; obtain ⟨hc, hz, hf⟩ := kept hb; have hz2 : w.heap.size + 1 + 1 < w1.heap.size := hz _ (by first | (simp; done) | (simp; omega) | assumption); have hz1 : w.heap.size + 1 < w1.heap.size := hz _ (by first | (simp; done) | (simp; omega) | assumption); have hz0 : w.heap.size < w1.heap.size := hz _ (by first | (simp; done) | (simp; omega) | assumption); first | rw [H1.out] | rw [H2.out])))
  (refine bodyPost_ret (v := .tuple #[nul.v, .int .i64 1]) (by simp [results, Tryd.results95, go_sem, *]) rfl ⟨by (rfl), ?_⟩; (repeat (first | exact ext_refl _ | assumption | (refine ext_alloc ?_ _) | (refine ext_drewN ?_ _) | refine ext_drew ?_ | (refine ext_set (by first | (simp; done) | (simp; omega)) _ ?_) | (refine ext_trans ?_ (by assumption)))))

set_option maxHeartbeats 400000 in
theorem rtest_null (op k n l m : Int) (s t : ByteArray) (w : World) (b c : Bool) (h : 9 ≤ op) (h' : op ≤ 14) (hb : b = true) (hc : c = true) (hn : (k == 0) = true ∧ (k != 0) = false ∨ (k == 0) = false ∧ (k != 0) = true ∧ (l == 0) = true ∧ (l != 0) = false) (h1 : Val.right ⟨k, n, s⟩ = b) (h2 : Val.right ⟨l, m, t⟩ = c) :
    Calls Tryd.prog 95 #[.int .i64 op, (Val.mk k n s).v, (Val.mk l m t).v] w fun e w' => e = .returned (.tuple #[nul.v, .int .i64 0]) ∧ Below w.heap.size w w' := by
  subst hb hc
  have H1 := Lib.hid h1
  have H2 := Lib.hid h2
  clear h1 h2
  rcases hn with ⟨h3, h4⟩ | ⟨h3, h4, h5, h6⟩
  all_goals go_enter Tryd.func95, Tryd.ntmps95
  all_goals go_wp2_with (first | (go_at_call 73; go_must (refine (rright_any ⟨_, _, _⟩ _).mono ?_; rintro e w1 ⟨rfl, hb⟩; obtain ⟨hc, hz, hf⟩ := kept hb; have hz2 : w.heap.size + 1 + 1 < w1.heap.size := hz _ (by first | (simp; done) | (simp; omega) | assumption); have hz1 : w.heap.size + 1 < w1.heap.size := hz _ (by first | (simp; done) | (simp; omega) | assumption); have hz0 : w.heap.size < w1.heap.size := hz _ (by first | (simp; done) | (simp; omega) | assumption); first | rw [H1.out] | rw [H2.out])))
  all_goals (refine bodyPost_ret (v := .tuple #[nul.v, .int .i64 0]) (by simp [results, Tryd.results95, go_sem, *]) rfl ⟨by (rfl), ?_⟩; (repeat (first | exact ext_refl _ | assumption | (refine ext_alloc ?_ _) | (refine ext_drewN ?_ _) | refine ext_drew ?_ | (refine ext_set (by first | (simp; done) | (simp; omega)) _ ?_) | (refine ext_trans ?_ (by assumption)))))

theorem holds9 (c : Int) : holdsB 9 c = (c == 0) := rfl
set_option maxHeartbeats 400000 in
theorem rtest_said9 (k n m : Int) (s t : ByteArray) (w : World) (h1 : Val.right ⟨k, n, s⟩ = true) (h2 : Val.right ⟨k, m, t⟩ = true) (h3 : (k == 0) = false) (h4 : (k != 0) = true) (_h5 : (k != k) = false) :
    Calls Tryd.prog 95 #[.int .i64 9, (Val.mk k n s).v, (Val.mk k m t).v] w fun e w' => e = .returned (.tuple #[(tru (bit (holdsB 9 (Val.cmp ⟨k, n, s⟩ ⟨k, m, t⟩)))).v, .int .i64 0]) ∧ Below w.heap.size w w' := by
  rw [holds9]
  have H1 := Lib.hid h1
  have H2 := Lib.hid h2
  clear h1 h2
  go_enter Tryd.func95, Tryd.ntmps95
  go_wp2_with (first | (go_at_call 73; go_must (refine (rright_any ⟨_, _, _⟩ _).mono ?_; rintro e w1 ⟨rfl, hb⟩; obtain ⟨hc, hz, hf⟩ := kept hb; have hz2 : w.heap.size + 1 + 1 < w1.heap.size := hz _ (by first | (simp; done) | (simp; omega) | assumption); have hz1 : w.heap.size + 1 < w1.heap.size := hz _ (by first | (simp; done) | (simp; omega) | assumption); have hz0 : w.heap.size < w1.heap.size := hz _ (by first | (simp; done) | (simp; omega) | assumption); first | rw [H1.out] | rw [H2.out])) | (go_at_call 107; go_must (refine (rcompare_any ⟨_, _, _⟩ ⟨_, _, _⟩ _).mono ?_; rintro e w1 ⟨rfl, hb⟩; obtain ⟨hc, hz, hf⟩ := kept hb; have hz2 : w.heap.size + 1 + 1 < w1.heap.size := hz _ (by first | (simp; done) | (simp; omega) | assumption); have hz1 : w.heap.size + 1 < w1.heap.size := hz _ (by first | (simp; done) | (simp; omega) | assumption); have hz0 : w.heap.size < w1.heap.size := hz _ (by first | (simp; done) | (simp; omega) | assumption))) | (go_at_call 94; go_must (refine (rtruth_any _ _).mono ?_; rintro e w1 ⟨rfl, hb⟩; obtain ⟨hc, hz, hf⟩ := kept hb; have hz2 : w.heap.size + 1 + 1 < w1.heap.size := hz _ (by first | (simp; done) | (simp; omega) | assumption); have hz1 : w.heap.size + 1 < w1.heap.size := hz _ (by first | (simp; done) | (simp; omega) | assumption); have hz0 : w.heap.size < w1.heap.size := hz _ (by first | (simp; done) | (simp; omega) | assumption))))
  all_goals (refine bodyPost_ret (v := .tuple #[(tru (bit ((Val.cmp ⟨k, n, s⟩ ⟨k, m, t⟩) == 0))).v, .int .i64 0]) (by simp [results, Tryd.results95, go_sem, *]) rfl ⟨by (rfl), ?_⟩; (repeat (first | exact ext_refl _ | assumption | (refine ext_alloc ?_ _) | (refine ext_drewN ?_ _) | refine ext_drew ?_ | (refine ext_set (by first | (simp; done) | (simp; omega)) _ ?_) | (refine ext_trans ?_ (by assumption)))))

theorem holds10 (c : Int) : holdsB 10 c = (c != 0) := rfl
set_option maxHeartbeats 400000 in
theorem rtest_said10 (k n m : Int) (s t : ByteArray) (w : World) (h1 : Val.right ⟨k, n, s⟩ = true) (h2 : Val.right ⟨k, m, t⟩ = true) (h3 : (k == 0) = false) (h4 : (k != 0) = true) (_h5 : (k != k) = false) :
    Calls Tryd.prog 95 #[.int .i64 10, (Val.mk k n s).v, (Val.mk k m t).v] w fun e w' => e = .returned (.tuple #[(tru (bit (holdsB 10 (Val.cmp ⟨k, n, s⟩ ⟨k, m, t⟩)))).v, .int .i64 0]) ∧ Below w.heap.size w w' := by
  rw [holds10]
  have H1 := Lib.hid h1
  have H2 := Lib.hid h2
  clear h1 h2
  go_enter Tryd.func95, Tryd.ntmps95
  go_wp2_with (first | (go_at_call 73; go_must (refine (rright_any ⟨_, _, _⟩ _).mono ?_; rintro e w1 ⟨rfl, hb⟩; obtain ⟨hc, hz, hf⟩ := kept hb; have hz2 : w.heap.size + 1 + 1 < w1.heap.size := hz _ (by first | (simp; done) | (simp; omega) | assumption); have hz1 : w.heap.size + 1 < w1.heap.size := hz _ (by first | (simp; done) | (simp; omega) | assumption); have hz0 : w.heap.size < w1.heap.size := hz _ (by first | (simp; done) | (simp; omega) | assumption); first | rw [H1.out] | rw [H2.out])) | (go_at_call 107; go_must (refine (rcompare_any ⟨_, _, _⟩ ⟨_, _, _⟩ _).mono ?_; rintro e w1 ⟨rfl, hb⟩; obtain ⟨hc, hz, hf⟩ := kept hb; have hz2 : w.heap.size + 1 + 1 < w1.heap.size := hz _ (by first | (simp; done) | (simp; omega) | assumption); have hz1 : w.heap.size + 1 < w1.heap.size := hz _ (by first | (simp; done) | (simp; omega) | assumption); have hz0 : w.heap.size < w1.heap.size := hz _ (by first | (simp; done) | (simp; omega) | assumption))) | (go_at_call 94; go_must (refine (rtruth_any _ _).mono ?_; rintro e w1 ⟨rfl, hb⟩; obtain ⟨hc, hz, hf⟩ := kept hb; have hz2 : w.heap.size + 1 + 1 < w1.heap.size := hz _ (by first | (simp; done) | (simp; omega) | assumption); have hz1 : w.heap.size + 1 < w1.heap.size := hz _ (by first | (simp; done) | (simp; omega) | assumption); have hz0 : w.heap.size < w1.heap.size := hz _ (by first | (simp; done) | (simp; omega) | assumption))))
  all_goals (refine bodyPost_ret (v := .tuple #[(tru (bit ((Val.cmp ⟨k, n, s⟩ ⟨k, m, t⟩) != 0))).v, .int .i64 0]) (by simp [results, Tryd.results95, go_sem, *]) rfl ⟨by (rfl), ?_⟩; (repeat (first | exact ext_refl _ | assumption | (refine ext_alloc ?_ _) | (refine ext_drewN ?_ _) | refine ext_drew ?_ | (refine ext_set (by first | (simp; done) | (simp; omega)) _ ?_) | (refine ext_trans ?_ (by assumption)))))

theorem holds11 (c : Int) : holdsB 11 c = (decide (c < 0)) := rfl
set_option maxHeartbeats 400000 in
theorem rtest_said11 (k n m : Int) (s t : ByteArray) (w : World) (h1 : Val.right ⟨k, n, s⟩ = true) (h2 : Val.right ⟨k, m, t⟩ = true) (h3 : (k == 0) = false) (h4 : (k != 0) = true) (_h5 : (k != k) = false) :
    Calls Tryd.prog 95 #[.int .i64 11, (Val.mk k n s).v, (Val.mk k m t).v] w fun e w' => e = .returned (.tuple #[(tru (bit (holdsB 11 (Val.cmp ⟨k, n, s⟩ ⟨k, m, t⟩)))).v, .int .i64 0]) ∧ Below w.heap.size w w' := by
  rw [holds11]
  have H1 := Lib.hid h1
  have H2 := Lib.hid h2
  clear h1 h2
  go_enter Tryd.func95, Tryd.ntmps95
  go_wp2_with (first | (go_at_call 73; go_must (refine (rright_any ⟨_, _, _⟩ _).mono ?_; rintro e w1 ⟨rfl, hb⟩; obtain ⟨hc, hz, hf⟩ := kept hb; have hz2 : w.heap.size + 1 + 1 < w1.heap.size := hz _ (by first | (simp; done) | (simp; omega) | assumption); have hz1 : w.heap.size + 1 < w1.heap.size := hz _ (by first | (simp; done) | (simp; omega) | assumption); have hz0 : w.heap.size < w1.heap.size := hz _ (by first | (simp; done) | (simp; omega) | assumption); first | rw [H1.out] | rw [H2.out])) | (go_at_call 107; go_must (refine (rcompare_any ⟨_, _, _⟩ ⟨_, _, _⟩ _).mono ?_; rintro e w1 ⟨rfl, hb⟩; obtain ⟨hc, hz, hf⟩ := kept hb; have hz2 : w.heap.size + 1 + 1 < w1.heap.size := hz _ (by first | (simp; done) | (simp; omega) | assumption); have hz1 : w.heap.size + 1 < w1.heap.size := hz _ (by first | (simp; done) | (simp; omega) | assumption); have hz0 : w.heap.size < w1.heap.size := hz _ (by first | (simp; done) | (simp; omega) | assumption))) | (go_at_call 94; go_must (refine (rtruth_any _ _).mono ?_; rintro e w1 ⟨rfl, hb⟩; obtain ⟨hc, hz, hf⟩ := kept hb; have hz2 : w.heap.size + 1 + 1 < w1.heap.size := hz _ (by first | (simp; done) | (simp; omega) | assumption); have hz1 : w.heap.size + 1 < w1.heap.size := hz _ (by first | (simp; done) | (simp; omega) | assumption); have hz0 : w.heap.size < w1.heap.size := hz _ (by first | (simp; done) | (simp; omega) | assumption))))
  all_goals (refine bodyPost_ret (v := .tuple #[(tru (bit (decide ((Val.cmp ⟨k, n, s⟩ ⟨k, m, t⟩) < 0)))).v, .int .i64 0]) (by simp [results, Tryd.results95, go_sem, *]) rfl ⟨by (rfl), ?_⟩; (repeat (first | exact ext_refl _ | assumption | (refine ext_alloc ?_ _) | (refine ext_drewN ?_ _) | refine ext_drew ?_ | (refine ext_set (by first | (simp; done) | (simp; omega)) _ ?_) | (refine ext_trans ?_ (by assumption)))))

theorem holds12 (c : Int) : holdsB 12 c = (decide (c ≤ 0)) := rfl
set_option maxHeartbeats 400000 in
theorem rtest_said12 (k n m : Int) (s t : ByteArray) (w : World) (h1 : Val.right ⟨k, n, s⟩ = true) (h2 : Val.right ⟨k, m, t⟩ = true) (h3 : (k == 0) = false) (h4 : (k != 0) = true) (_h5 : (k != k) = false) :
    Calls Tryd.prog 95 #[.int .i64 12, (Val.mk k n s).v, (Val.mk k m t).v] w fun e w' => e = .returned (.tuple #[(tru (bit (holdsB 12 (Val.cmp ⟨k, n, s⟩ ⟨k, m, t⟩)))).v, .int .i64 0]) ∧ Below w.heap.size w w' := by
  rw [holds12]
  have H1 := Lib.hid h1
  have H2 := Lib.hid h2
  clear h1 h2
  go_enter Tryd.func95, Tryd.ntmps95
  go_wp2_with (first | (go_at_call 73; go_must (refine (rright_any ⟨_, _, _⟩ _).mono ?_; rintro e w1 ⟨rfl, hb⟩; obtain ⟨hc, hz, hf⟩ := kept hb; have hz2 : w.heap.size + 1 + 1 < w1.heap.size := hz _ (by first | (simp; done) | (simp; omega) | assumption); have hz1 : w.heap.size + 1 < w1.heap.size := hz _ (by first | (simp; done) | (simp; omega) | assumption); have hz0 : w.heap.size < w1.heap.size := hz _ (by first | (simp; done) | (simp; omega) | assumption); first | rw [H1.out] | rw [H2.out])) | (go_at_call 107; go_must (refine (rcompare_any ⟨_, _, _⟩ ⟨_, _, _⟩ _).mono ?_; rintro e w1 ⟨rfl, hb⟩; obtain ⟨hc, hz, hf⟩ := kept hb; have hz2 : w.heap.size + 1 + 1 < w1.heap.size := hz _ (by first | (simp; done) | (simp; omega) | assumption); have hz1 : w.heap.size + 1 < w1.heap.size := hz _ (by first | (simp; done) | (simp; omega) | assumption); have hz0 : w.heap.size < w1.heap.size := hz _ (by first | (simp; done) | (simp; omega) | assumption))) | (go_at_call 94; go_must (refine (rtruth_any _ _).mono ?_; rintro e w1 ⟨rfl, hb⟩; obtain ⟨hc, hz, hf⟩ := kept hb; have hz2 : w.heap.size + 1 + 1 < w1.heap.size := hz _ (by first | (simp; done) | (simp; omega) | assumption); have hz1 : w.heap.size + 1 < w1.heap.size := hz _ (by first | (simp; done) | (simp; omega) | assumption); have hz0 : w.heap.size < w1.heap.size := hz _ (by first | (simp; done) | (simp; omega) | assumption))))
  all_goals (refine bodyPost_ret (v := .tuple #[(tru (bit (decide ((Val.cmp ⟨k, n, s⟩ ⟨k, m, t⟩) ≤ 0)))).v, .int .i64 0]) (by simp [results, Tryd.results95, go_sem, *]) rfl ⟨by (rfl), ?_⟩; (repeat (first | exact ext_refl _ | assumption | (refine ext_alloc ?_ _) | (refine ext_drewN ?_ _) | refine ext_drew ?_ | (refine ext_set (by first | (simp; done) | (simp; omega)) _ ?_) | (refine ext_trans ?_ (by assumption)))))

theorem holds13 (c : Int) : holdsB 13 c = (decide (0 < c)) := rfl
set_option maxHeartbeats 400000 in
theorem rtest_said13 (k n m : Int) (s t : ByteArray) (w : World) (h1 : Val.right ⟨k, n, s⟩ = true) (h2 : Val.right ⟨k, m, t⟩ = true) (h3 : (k == 0) = false) (h4 : (k != 0) = true) (_h5 : (k != k) = false) :
    Calls Tryd.prog 95 #[.int .i64 13, (Val.mk k n s).v, (Val.mk k m t).v] w fun e w' => e = .returned (.tuple #[(tru (bit (holdsB 13 (Val.cmp ⟨k, n, s⟩ ⟨k, m, t⟩)))).v, .int .i64 0]) ∧ Below w.heap.size w w' := by
  rw [holds13]
  have H1 := Lib.hid h1
  have H2 := Lib.hid h2
  clear h1 h2
  go_enter Tryd.func95, Tryd.ntmps95
  go_wp2_with (first | (go_at_call 73; go_must (refine (rright_any ⟨_, _, _⟩ _).mono ?_; rintro e w1 ⟨rfl, hb⟩; obtain ⟨hc, hz, hf⟩ := kept hb; have hz2 : w.heap.size + 1 + 1 < w1.heap.size := hz _ (by first | (simp; done) | (simp; omega) | assumption); have hz1 : w.heap.size + 1 < w1.heap.size := hz _ (by first | (simp; done) | (simp; omega) | assumption); have hz0 : w.heap.size < w1.heap.size := hz _ (by first | (simp; done) | (simp; omega) | assumption); first | rw [H1.out] | rw [H2.out])) | (go_at_call 107; go_must (refine (rcompare_any ⟨_, _, _⟩ ⟨_, _, _⟩ _).mono ?_; rintro e w1 ⟨rfl, hb⟩; obtain ⟨hc, hz, hf⟩ := kept hb; have hz2 : w.heap.size + 1 + 1 < w1.heap.size := hz _ (by first | (simp; done) | (simp; omega) | assumption); have hz1 : w.heap.size + 1 < w1.heap.size := hz _ (by first | (simp; done) | (simp; omega) | assumption); have hz0 : w.heap.size < w1.heap.size := hz _ (by first | (simp; done) | (simp; omega) | assumption))) | (go_at_call 94; go_must (refine (rtruth_any _ _).mono ?_; rintro e w1 ⟨rfl, hb⟩; obtain ⟨hc, hz, hf⟩ := kept hb; have hz2 : w.heap.size + 1 + 1 < w1.heap.size := hz _ (by first | (simp; done) | (simp; omega) | assumption); have hz1 : w.heap.size + 1 < w1.heap.size := hz _ (by first | (simp; done) | (simp; omega) | assumption); have hz0 : w.heap.size < w1.heap.size := hz _ (by first | (simp; done) | (simp; omega) | assumption))))
  all_goals (refine bodyPost_ret (v := .tuple #[(tru (bit (decide (0 < (Val.cmp ⟨k, n, s⟩ ⟨k, m, t⟩))))).v, .int .i64 0]) (by simp [results, Tryd.results95, go_sem, *]) rfl ⟨by (rfl), ?_⟩; (repeat (first | exact ext_refl _ | assumption | (refine ext_alloc ?_ _) | (refine ext_drewN ?_ _) | refine ext_drew ?_ | (refine ext_set (by first | (simp; done) | (simp; omega)) _ ?_) | (refine ext_trans ?_ (by assumption)))))

theorem holds14 (c : Int) : holdsB 14 c = (decide (0 ≤ c)) := rfl
set_option maxHeartbeats 400000 in
theorem rtest_said14 (k n m : Int) (s t : ByteArray) (w : World) (h1 : Val.right ⟨k, n, s⟩ = true) (h2 : Val.right ⟨k, m, t⟩ = true) (h3 : (k == 0) = false) (h4 : (k != 0) = true) (_h5 : (k != k) = false) :
    Calls Tryd.prog 95 #[.int .i64 14, (Val.mk k n s).v, (Val.mk k m t).v] w fun e w' => e = .returned (.tuple #[(tru (bit (holdsB 14 (Val.cmp ⟨k, n, s⟩ ⟨k, m, t⟩)))).v, .int .i64 0]) ∧ Below w.heap.size w w' := by
  rw [holds14]
  have H1 := Lib.hid h1
  have H2 := Lib.hid h2
  clear h1 h2
  go_enter Tryd.func95, Tryd.ntmps95
  go_wp2_with (first | (go_at_call 73; go_must (refine (rright_any ⟨_, _, _⟩ _).mono ?_; rintro e w1 ⟨rfl, hb⟩; obtain ⟨hc, hz, hf⟩ := kept hb; have hz2 : w.heap.size + 1 + 1 < w1.heap.size := hz _ (by first | (simp; done) | (simp; omega) | assumption); have hz1 : w.heap.size + 1 < w1.heap.size := hz _ (by first | (simp; done) | (simp; omega) | assumption); have hz0 : w.heap.size < w1.heap.size := hz _ (by first | (simp; done) | (simp; omega) | assumption); first | rw [H1.out] | rw [H2.out])) | (go_at_call 107; go_must (refine (rcompare_any ⟨_, _, _⟩ ⟨_, _, _⟩ _).mono ?_; rintro e w1 ⟨rfl, hb⟩; obtain ⟨hc, hz, hf⟩ := kept hb; have hz2 : w.heap.size + 1 + 1 < w1.heap.size := hz _ (by first | (simp; done) | (simp; omega) | assumption); have hz1 : w.heap.size + 1 < w1.heap.size := hz _ (by first | (simp; done) | (simp; omega) | assumption); have hz0 : w.heap.size < w1.heap.size := hz _ (by first | (simp; done) | (simp; omega) | assumption))) | (go_at_call 94; go_must (refine (rtruth_any _ _).mono ?_; rintro e w1 ⟨rfl, hb⟩; obtain ⟨hc, hz, hf⟩ := kept hb; have hz2 : w.heap.size + 1 + 1 < w1.heap.size := hz _ (by first | (simp; done) | (simp; omega) | assumption); have hz1 : w.heap.size + 1 < w1.heap.size := hz _ (by first | (simp; done) | (simp; omega) | assumption); have hz0 : w.heap.size < w1.heap.size := hz _ (by first | (simp; done) | (simp; omega) | assumption))))
  all_goals (refine bodyPost_ret (v := .tuple #[(tru (bit (decide (0 ≤ (Val.cmp ⟨k, n, s⟩ ⟨k, m, t⟩))))).v, .int .i64 0]) (by simp [results, Tryd.results95, go_sem, *]) rfl ⟨by (rfl), ?_⟩; (repeat (first | exact ext_refl _ | assumption | (refine ext_alloc ?_ _) | (refine ext_drewN ?_ _) | refine ext_drew ?_ | (refine ext_set (by first | (simp; done) | (simp; omega)) _ ?_) | (refine ext_trans ?_ (by assumption)))))

theorem rtest_any (op : Int) (x y : Val) (w : World) :
    Calls Tryd.prog 95 #[.int .i64 op, x.v, y.v] w fun e w' => e = .returned (.tuple #[(testS op x y).1.v, .int .i64 (testS op x y).2]) ∧ Below w.heap.size w w' := by
  obtain ⟨k, n, s⟩ := x
  obtain ⟨l, m, t⟩ := y
  cases ht : testable op ⟨k, n, s⟩ ⟨l, m, t⟩
  · rw [show testS op ⟨k, n, s⟩ ⟨l, m, t⟩ = (nul, 1) by simp only [testS, ht]; rfl]
    rcases refused ht with h | ⟨h, h'⟩ | ⟨h, h', h1⟩ | ⟨h, h', h1, h2⟩ | ⟨h, h', h1, h2, h3, h4, h5⟩
    · exact rtest_low op k n l m s t w _ _ h rfl rfl
    · exact rtest_high op k n l m s t w _ _ h h' rfl rfl
    · exact rtest_one op k n l m s t w _ _ h h' rfl h1 rfl
    · exact rtest_two op k n l m s t w _ _ h h' rfl rfl h1 h2
    · exact rtest_kinds op k n l m s t w _ _ h h' rfl rfl h3 h4 h5 h1 h2
  · have ht' := ht
    simp only [testable, Bool.and_eq_true, decide_eq_true_eq] at ht'
    obtain ⟨⟨⟨⟨h, h'⟩, h1⟩, h2⟩, h3⟩ := ht'
    rcases nulls k l with h4 | ⟨h4, h5⟩ | ⟨h4, h5⟩
    · rw [show testS op ⟨k, n, s⟩ ⟨l, m, t⟩ = (nul, 0) by simp only [testS, ht, h4]; rfl]
      exact rtest_null op k n l m s t w _ _ h h' rfl rfl (.inl ⟨h4, by rw [bne, h4]; rfl⟩) h1 h2
    · rw [show testS op ⟨k, n, s⟩ ⟨l, m, t⟩ = (nul, 0) by simp only [testS, ht, h4, h5]; rfl]
      exact rtest_null op k n l m s t w _ _ h h' rfl rfl (.inr ⟨h4, by rw [bne, h4]; rfl, h5, by rw [bne, h5]; rfl⟩) h1 h2
    · have h6 : k = l := by
        rw [h4, h5] at h3
        simpa using h3
      subst h6
      rw [show testS op ⟨k, n, s⟩ ⟨k, m, t⟩ = (tru (bit (holdsB op (Val.cmp ⟨k, n, s⟩ ⟨k, m, t⟩))), 0) by simp only [testS, ht, h4]; rfl]
      have h7 : (k != 0) = true := by rw [bne, h4]; rfl
      have h8 : (k != k) = false := by simp
      have h9 : op = 9 ∨ op = 10 ∨ op = 11 ∨ op = 12 ∨ op = 13 ∨ op = 14 := by have := h; have := h'; simp at *; omega
      rcases h9 with rfl | rfl | rfl | rfl | rfl | rfl
      · exact rtest_said9 k n m s t w h1 h2 h4 h7 h8
      · exact rtest_said10 k n m s t w h1 h2 h4 h7 h8
      · exact rtest_said11 k n m s t w h1 h2 h4 h7 h8
      · exact rtest_said12 k n m s t w h1 h2 h4 h7 h8
      · exact rtest_said13 k n m s t w h1 h2 h4 h7 h8
      · exact rtest_said14 k n m s t w h1 h2 h4 h7 h8

end Go.Proofs.YthdnbcdcfaocmaaDoor
