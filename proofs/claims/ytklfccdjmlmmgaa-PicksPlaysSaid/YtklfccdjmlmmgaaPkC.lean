/- A queue of numbers in a channel: a choice. -/
import Derived.Test.YtklfccdjmlmmgaaPkO
import Derived.Test.YtklfccdjmlmmgaaLone
namespace Go.Proofs.Ytklfccdjmlmmgaa
open Go.Conc Go.RowKit

/-- The pointer to block p is a picks that has the numbers L left; they lie in the channel c. -/
structure PkP (w : World) (B p c : Nat) (L : List Int) : Prop where
  blk : w.heap[p]? = some (.cells #[.chan (some c)] 40 (0, 0))
  chn : ∃ cap s r, w.heap[c]? = some (.chan cap (L.map (Value.int .i64)).toArray false s r false)
  fit : Fit L
  lowp : p < B
  lowc : c < B
  top : B ≤ w.heap.size

theorem PkP.tail {w : World} {B p c cap s r' : Nat} {x : Int} {L : List Int} (h : PkP w B p c (x :: L)) : PkP (w.setChan c cap (L.map (Value.int .i64)).toArray false s r' false) B p c L := by
  obtain ⟨cap0, s0, r0, hc⟩ := h.chn
  have hcp : c ≠ p := fun e => by rw [e, h.blk] at hc; cases hc
  have hlt : c < w.heap.size := Nat.lt_of_lt_of_le h.lowc h.top
  refine ⟨?_, ⟨cap, s, r', heap_setChan w c cap _ false s r' false hlt⟩, fun y hy => h.fit y (by simp [hy]), h.lowp, h.lowc, by rw [size_setChan]; exact h.top⟩
  simp only [World.setChan]
  rw [Array.getElem?_setIfInBounds_ne hcp]
  exact h.blk

theorem turnN_fit {c : Int} (h : -9223372036854775808 ≤ c ∧ c ≤ 9223372036854775807) : 0 ≤ turnN c ∧ turnN c ≤ 9223372036854775807 := by
  unfold turnN; split <;> omega

set_option maxRecDepth 100000 in
set_option maxHeartbeats 1000000 in
theorem choose_any (c n : Int) (w : World) (hc : -9223372036854775808 ≤ c ∧ c ≤ 9223372036854775807) (hn : ¬ n < 1) (hn2 : n ≤ 9223372036854775807) :
    Calls Try.prog 17 #[.int .i64 c, .int .i64 n] w fun e w' => e = .returned (.int .i64 ((turnN c) % n)) ∧ w' = w := by
  have tn : ∀ z : Int, z = turnN c → z % n = (turnN c) % n := fun z h => by rw [h]
  have HT := Lib.hid tn
  clear tn
  by_cases hneg : c < 0
  · go_enter Try.func17, Try.ntmps17
    go_wp2
    go_ret
    refine ⟨?_, rfl⟩
    rw [← HT.out (-(c + 1)) (by unfold turnN; rw [if_pos (by omega)]), ← Int.tmod_eq_emod_of_nonneg (by omega), Int.neg_tmod]
    try rfl
  · go_enter Try.func17, Try.ntmps17
    go_wp2
    go_ret
    refine ⟨?_, rfl⟩
    rw [← HT.out c (by unfold turnN; rw [if_neg (by omega)])]
    try rfl

set_option maxRecDepth 100000 in
set_option maxHeartbeats 1000000 in
theorem next_none (p : Nat) (n : Int) (w : World) (hn : n < 1) :
    Calls Try.prog 11 #[.pointer (some ⟨p, 0, none⟩), .int .i64 n] w fun e w' => e = .returned (.int .i64 0) ∧ w' = w := by
  go_enter Try.func11, Try.ntmps11
  go_wp2
  go_ret
  exact ⟨rfl, rfl⟩

set_option maxRecDepth 100000 in
set_option maxHeartbeats 4000000 in
theorem next_empty (B p c : Nat) (n : Int) (w : World) (hR : PkP w B p c []) (hn : ¬ n < 1) :
    Calls Try.prog 11 #[.pointer (some ⟨p, 0, none⟩), .int .i64 n] w fun e w' => e = .returned (.int .i64 0) ∧ w' = w := by
  obtain ⟨cap, s, r, hc⟩ := hR.chn
  have c0 : w.cell? ⟨p, 0, none⟩ = some (.chan (some c)) := by rw [Lib.cell_of_heap hR.blk]; rfl
  have hc : w.heap[c]? = some (.chan cap #[] false s r false) := hc
  refine calls_of_loneTo fun cs => ?_
  have e : Frame.enter Try.prog 11 #[.pointer (some ⟨p, 0, none⟩), .int .i64 n] .normal = (base 11).at ⟨#[.pointer (some ⟨p, 0, none⟩), .int .i64 n, undef, undef, undef, undef, undef, undef, undef, undef, undef, undef, undef, undef, undef, undef, undef, undef, undef], []⟩ [.code (Try.f11.body.getD .skip)] := by
    simp [Frame.enter, Frame.at, Try.func11, base, Try.f11]
  rw [e]
  refine LoneTo.goes (n := 40) ?_
  simp only [Try.f11, Option.getD_some]
  s_c stepG_seq
  s_reg
  s_op
  s_c stepG_region_end
  s_c stepG_seq
  s_c stepG_seq
  s_reg
  s_op
  s_op
  s_c stepG_region_end
  s_cond false
  s_c stepG_skip
  s_c stepG_seq
  s_reg
  s_op
  s_op
  s_op
  s_op
  s_c stepG_region_end
  s_c stepG_seq
  s_reg
  s_stop
  refine LoneTo.step (step_lone_select_default (c := c) (z := .int .i64 0) (cap := cap) (s := s) (r := r) (tm := false) (stepG_comm (cases := #[rcase c (.int .i64 0)]) (blocking := false) (shape := .select) (w' := w) rfl rfl (by decide) (by simp [go_sem, execOp, rcase, Act.eval])) hc) ?_
  rw [Frame.finish_at]
  walk_nrm
  refine LoneTo.goes (n := 40) ?_
  s_op
  s_op
  s_c stepG_region_end
  s_c stepG_block
  s_cond false
  s_c stepG_seq
  s_reg
  s_op
  s_c stepG_region_end
  s_c stepG_ret'
  s_stop
  refine LoneTo.done ⟨.returned (.int .i64 0), _, rfl, ⟨rfl, rfl⟩, rfl, rfl, rfl, rfl, _, Try.func11, by simp [results, Try.f11, Frame.at]⟩

set_option maxRecDepth 100000 in
set_option maxHeartbeats 4000000 in
theorem next_some (B p c : Nat) (x : Int) (L : List Int) (n : Int) (w : World) (hR : PkP w B p c (x :: L)) (hn : ¬ n < 1) (hn2 : n ≤ 9223372036854775807) :
    Calls Try.prog 11 #[.pointer (some ⟨p, 0, none⟩), .int .i64 n] w fun e w' => e = .returned (.int .i64 ((turnN x) % n)) ∧ PkP w' B p c L ∧ Out (fun k => k = c) w w' := by
  obtain ⟨cap, s, r, hc⟩ := hR.chn
  have c0 : w.cell? ⟨p, 0, none⟩ = some (.chan (some c)) := by rw [Lib.cell_of_heap hR.blk]; rfl
  have hfit := hR.fit x (by simp)
  have hbuf : ((x :: L).map (Value.int .i64)).toArray.extract 1 ((x :: L).map (Value.int .i64)).toArray.size = (L.map (Value.int .i64)).toArray := by
    apply Array.ext'
    simp [List.take_of_length_le]
  have hget : ((x :: L).map (Value.int .i64)).toArray.getD 0 undef = .int .i64 x := rfl
  have hnew : PkP (w.setChan c cap (L.map (Value.int .i64)).toArray false s (r + 1) false) B p c L ∧ Out (fun k => k = c) w (w.setChan c cap (L.map (Value.int .i64)).toArray false s (r + 1) false) :=
    ⟨hR.tail, rfl, rfl, rfl, by rw [size_setChan]; exact Nat.le_refl _, fun k _ hk => by simp only [World.setChan]; rw [Array.getElem?_setIfInBounds_ne (fun e => hk e.symm)]⟩
  have HN := Lib.hid hnew
  have HR := Lib.hid hR
  clear hR hnew
  refine calls_of_loneTo fun cs => ?_
  have e : Frame.enter Try.prog 11 #[.pointer (some ⟨p, 0, none⟩), .int .i64 n] .normal = (base 11).at ⟨#[.pointer (some ⟨p, 0, none⟩), .int .i64 n, undef, undef, undef, undef, undef, undef, undef, undef, undef, undef, undef, undef, undef, undef, undef, undef, undef], []⟩ [.code (Try.f11.body.getD .skip)] := by
    simp [Frame.enter, Frame.at, Try.func11, base, Try.f11]
  rw [e]
  refine LoneTo.goes (n := 40) ?_
  simp only [Try.f11, Option.getD_some]
  s_c stepG_seq
  s_reg
  s_op
  s_c stepG_region_end
  s_c stepG_seq
  s_c stepG_seq
  s_reg
  s_op
  s_op
  s_c stepG_region_end
  s_cond false
  s_c stepG_skip
  s_c stepG_seq
  s_reg
  s_op
  s_op
  s_op
  s_op
  s_c stepG_region_end
  s_c stepG_seq
  s_reg
  s_stop
  refine LoneTo.step (step_lone_select_recv_buf (c := c) (z := .int .i64 0) (cap := cap) (s := s) (r := r) (tm := false) (stepG_comm (cases := #[rcase c (.int .i64 0)]) (blocking := false) (shape := .select) (w' := w) rfl rfl (by decide) (by simp [go_sem, execOp, rcase, Act.eval])) hc (by simp)) ?_
  rw [Frame.finish_at]
  simp only [hbuf, hget]
  walk_nrm
  refine LoneTo.goes (n := 40) ?_
  s_op
  s_op
  s_c stepG_region_end
  s_c stepG_block
  s_cond true
  s_c stepG_seq
  s_reg
  s_op
  s_op
  s_c stepG_region_end
  s_c stepG_seq
  s_reg
  s_op
  s_op
  s_stop
  refine LoneTo.call (vs := #[.int .i64 x, .int .i64 n]) rfl rfl (by decide) rfl Try.func17 (by decide) rfl (by simp [Act.eval]) (choose_any x n _ hfit hn hn2) ?_
  rintro e w' ⟨rfl, rfl⟩
  refine ⟨_, rfl, ?_⟩
  walk_nrm
  refine LoneTo.goes (n := 40) ?_
  s_op
  s_c stepG_region_end
  s_c stepG_ret'
  s_stop
  refine LoneTo.done ⟨.returned (.int .i64 (turnN x % n)), _, rfl, ⟨rfl, HN.out⟩, rfl, rfl, rfl, rfl, _, Try.func11, ?_⟩
  simp [results, Try.f11, Frame.at]

set_option maxRecDepth 100000 in
set_option maxHeartbeats 1000000 in
theorem left_any (B p c : Nat) (L : List Int) (w : World) (hR : PkP w B p c L) :
    Calls Try.prog 16 #[.pointer (some ⟨p, 0, none⟩)] w fun e w' => e = .returned (.int .i64 L.length) ∧ w' = w := by
  obtain ⟨cap, s, r, hc⟩ := hR.chn
  have c0 : w.cell? ⟨p, 0, none⟩ = some (.chan (some c)) := by rw [Lib.cell_of_heap hR.blk]; rfl
  have hlen := fun ty => run_len_chan (P := Try.prog) 38 ty Try.underlying38 hc
  go_enter Try.func16, Try.ntmps16
  go_wp2
  go_ret
  exact ⟨by simp, rfl⟩

theorem PkP.ext {w w' : World} {B p c : Nat} {L : List Int} (h : PkP w B p c L) (hb : Below B w w') : PkP w' B p c L := by
  obtain ⟨cap, s, r, hc⟩ := h.chn
  exact ⟨by rw [hb.block p h.lowp]; exact h.blk, ⟨cap, s, r, by rw [hb.block c h.lowc]; exact hc⟩, h.fit, h.lowp, h.lowc, Nat.le_trans h.top hb.size⟩
theorem PkP.up {w : World} {B B' p c : Nat} {L : List Int} (h : PkP w B p c L) (hB : B ≤ B') (ht : B' ≤ w.heap.size) : PkP w B' p c L := ⟨h.blk, h.chn, h.fit, Nat.lt_of_lt_of_le h.lowp hB, Nat.lt_of_lt_of_le h.lowc hB, ht⟩
theorem PkP.keep {S : Nat → Prop} {w w' : World} {B p c : Nat} {L : List Int} (h : PkP w B p c L) (o : Out S w w') (hp : ¬ S p) (hc : ¬ S c) : PkP w' B p c L := by
  obtain ⟨cap, s, r, hb⟩ := h.chn
  exact ⟨by rw [o.block p (Nat.lt_of_lt_of_le h.lowp h.top) hp]; exact h.blk, ⟨cap, s, r, by rw [o.block c (Nat.lt_of_lt_of_le h.lowc h.top) hc]; exact hb⟩, h.fit, h.lowp, h.lowc, Nat.le_trans h.top o.size⟩

theorem next_any (B p c : Nat) (L : List Int) (n : Int) (w : World) (hR : PkP w B p c L) (hn2 : n ≤ 9223372036854775807) :
    Calls Try.prog 11 #[.pointer (some ⟨p, 0, none⟩), .int .i64 n] w fun e w' => e = .returned (.int .i64 (pickN L n)) ∧ PkP w' B p c (pickL L n) ∧ Out (fun k => k = c) w w' := by
  by_cases hn : n < 1
  · refine (next_none p n w hn).mono ?_
    rintro e w' ⟨rfl, rfl⟩
    unfold pickN pickL
    rw [if_pos hn, if_pos hn]
    exact ⟨rfl, hR, Out.refl _ _⟩
  · unfold pickN pickL
    rw [if_neg hn, if_neg hn]
    cases L with
    | nil =>
      refine (next_empty B p c n w hR hn).mono ?_
      rintro e w' ⟨rfl, rfl⟩
      exact ⟨rfl, hR, Out.refl _ _⟩
    | cons x l => exact next_some B p c x l n w hR hn hn2

end Go.Proofs.Ytklfccdjmlmmgaa
