/- A picks is made: a loop of sends. -/
import Derived.Test.YtklfccdjmlmmgaaPkC
namespace Go.Proofs.Ytklfccdjmlmmgaa
open Go.Conc Go.RowKit

def sndSeq : Code → Code | .seq _ b => b | c => c
def fstSeq : Code → Code | .seq a _ => a | c => c
def unBlock : Code → Code | .block _ c => c | c => c
def unLoop : Code → Code | .loop c => c | c => c
/-- The loop's body, and what follows the loop: taken out of the loaded function. -/
noncomputable def newBody : Code := unLoop (unBlock (sndSeq (fstSeq (sndSeq (sndSeq (sndSeq (Try.f9.body.getD .skip)))))))
noncomputable def newAfter : Code := sndSeq (sndSeq (sndSeq (sndSeq (Try.f9.body.getD .skip))))

/-- In the midst of the sends: the first i numbers lie in the channel. -/
structure Mid (w W : World) (c N : Nat) (L : List Int) (i : Nat) : Prop where
  chn : ∃ s r, W.heap[c]? = some (.chan N ((L.take i).map (Value.int .i64)).toArray false s r false)
  bel : Below c w W
  size : W.heap.size = c + 1
theorem Mid.sent {w W : World} {c N i s r : Nat} {L : List Int} {x : Int} (h : Mid w W c N L i) (hx : L[i]? = some x) : Mid w (W.setChan c N (((L.take i).map (Value.int .i64)).toArray.push (.int .i64 x)) false s r false) c N L (i + 1) := by
  refine ⟨⟨s, r, ?_⟩, below_setChan h.bel (Nat.le_refl _) _ _ _ _ _ _, by rw [size_setChan]; exact h.size⟩
  rw [heap_setChan _ _ _ _ _ _ _ _ (by rw [h.size]; omega)]
  congr 2
  rw [List.take_add_one, hx]
  simp
theorem Mid.done {w W : World} {c N : Nat} {L : List Int} (h : Mid w W c N L L.length) (hF : Fit L) : PkP (W.alloc (.cells #[.chan (some c)] 40)) (c + 2) (c + 1) c L := by
  obtain ⟨s, r, hc⟩ := h.chn
  rw [List.take_of_length_le (Nat.le_refl _)] at hc
  refine ⟨?_, ⟨N, s, r, ?_⟩, hF, by omega, by omega, by simp [h.size]⟩
  · have := heap_alloc_new W (.cells #[.chan (some c)] 40)
    rwa [h.size] at this
  · rw [Below.heap_alloc _ _ _ (by rw [h.size]; omega)]
    exact hc

/-- What the call comes to. -/
def NewEnds (cs : List Frame) (w : World) (c N : Nat) (L : List Int) (g' : Goroutine) (w' : World) : Prop := ∃ e fr, g' = G fr cs ∧ (e = .returned (.pointer (some ⟨c + 1, 0, none⟩)) ∧ ∃ W, w' = W.alloc (.cells #[.chan (some c)] 40) ∧ Mid w W c N L N) ∧ fr.fn = 9 ∧ fr.leaving Try.prog w' e

set_option maxRecDepth 100000 in
set_option maxHeartbeats 4000000 in
theorem new_exit (w W : World) (c N cap : Nat) (q : Option Addr) (L : List Int) (cs : List Frame) (i : Nat) (hi : i = N) (hM : Mid w W c N L i) (j0 j1 j2 j4 j5 j6 j7 j8 j9 j10 j11 j12 j13 j17 j18 j19 j20 j21 j22 j23 j24 j25 : Value) :
    LoneTo Try.prog (NewEnds cs w c N L) (G ((base 9).at ⟨#[j0, j1, j2, .chan (some c), j4, j5, j6, j7, j8, j9, j10, j11, j12, j13, .slice q N cap, .int .i64 N, .int .i64 i, j17, j18, j19, j20, j21, j22, j23, j24, j25], []⟩ [.code newBody, .inLoop newBody, .inBlock 0, .code newAfter]) cs) W := by
  have hs : W.heap.size = c + 1 := hM.size
  have HM := Lib.hid hM
  clear hM
  refine LoneTo.goes (n := 30) ?_
  have hlt : ¬ i < N := by omega
  simp only [newBody, newAfter, Try.f9, Option.getD_some, sndSeq, fstSeq, unBlock, unLoop]
  s_c stepG_seq
  s_reg
  s_op
  s_c stepG_region_end
  s_c stepG_seq
  s_cond false
  s_exit
  s_c stepG_seq
  s_reg
  s_op
  s_op
  s_op
  s_op
  s_c stepG_region_end
  s_c stepG_ret'
  s_stop
  refine LoneTo.done ⟨.returned (.pointer (some ⟨c + 1, 0, none⟩)), _, rfl, ⟨rfl, W, rfl, by rw [← hi]; have := HM.out; rwa [← hi] at this⟩, rfl, rfl, rfl, rfl, _, Try.func9, by simp [results, Try.f9, Frame.at]⟩

set_option maxRecDepth 100000 in
set_option maxHeartbeats 4000000 in
theorem new_loop (w : World) (c N cap : Nat) (q : Option Addr) (L : List Int) (cs : List Frame) (hL : L.length = N) (hN : N ≤ 1000) (hS : SrcI w c q L) :
    ∀ (m i : Nat) (W : World) (j0 j1 j2 j4 j5 j6 j7 j8 j9 j10 j11 j12 j13 j17 j18 j19 j20 j21 j22 j23 j24 j25 : Value), i + m = N → Mid w W c N L i → LoneTo Try.prog (NewEnds cs w c N L) (G ((base 9).at ⟨#[j0, j1, j2, .chan (some c), j4, j5, j6, j7, j8, j9, j10, j11, j12, j13, .slice q N cap, .int .i64 N, .int .i64 i, j17, j18, j19, j20, j21, j22, j23, j24, j25], []⟩ [.code newBody, .inLoop newBody, .inBlock 0, .code newAfter]) cs) W := by
  intro m
  induction m with
  | zero =>
    intro i W j0 j1 j2 j4 j5 j6 j7 j8 j9 j10 j11 j12 j13 j17 j18 j19 j20 j21 j22 j23 j24 j25 him hM
    exact new_exit w W c N cap q L cs i (by omega) hM _ _ _ _ _ _ _ _ _ _ _ _ _ _ _ _ _ _ _ _ _ _
  | succ m ih =>
    intro i W j0 j1 j2 j4 j5 j6 j7 j8 j9 j10 j11 j12 j13 j17 j18 j19 j20 j21 j22 j23 j24 j25 him hM
    have hlt : i < N := by omega
    obtain ⟨g, off, rfl, hg, hcell⟩ := hS i (by omega)
    obtain ⟨x, hx⟩ : ∃ x, L[i]? = some x := ⟨_, List.getElem?_eq_getElem (by omega)⟩
    have c0 := (hM.bel.cell (p := ⟨g, off + i, none⟩) hg).trans (hcell i x hx)
    obtain ⟨s, r, hc⟩ := hM.chn
    have hroom : ((L.take i).map (Value.int .i64)).toArray.size < N := by simp; omega
    have hnext := Lib.hid (hM.sent (s := s + 1) (r := r) hx)
    have HM := Lib.hid hM
    have IH := Lib.hid ih
    have hw : IntKind.i64.wrap ((i : Int) + 1) = (i : Int) + 1 := by rw [IntKind.wrap_i64]; omega
    clear hM hcell ih
    refine LoneTo.goes (n := 60) ?_
    simp only [newBody, newAfter, Try.f9, Option.getD_some, sndSeq, fstSeq, unBlock, unLoop]
    s_c stepG_seq
    s_reg
    s_op
    s_c stepG_region_end
    s_c stepG_seq
    s_cond true
    s_c stepG_skip
    s_c stepG_seq
    s_c stepG_block
    s_c stepG_seq
    s_reg
    s_op
    s_op
    s_op
    s_c stepG_region_end
    s_reg
    s_op
    s_op
    s_stop
    refine LoneTo.step (step_lone_send_room (c := c) (cap := N) (buf := ((L.take i).map (Value.int .i64)).toArray) (s := s) (r := r) (tm := false) (stepG_comm (cases := #[scase c (.int .i64 x) (.tuple #[])]) (blocking := true) (shape := .send) (w' := W) rfl rfl (by decide) (by simp [execOp, scase, Act.eval])) hc hroom) ?_
    rw [Frame.finish_at]
    walk_nrm
    refine LoneTo.goes (n := 60) ?_
    s_c stepG_region_end
    s_c stepG_inBlock
    s_reg
    s_op
    s_op
    s_c stepG_region_end
    s_c stepG_inLoop
    s_stop
    exact IH.out (i + 1) _ _ _ _ _ _ _ _ _ _ _ _ _ _ _ _ _ _ _ _ _ _ _ (by omega) (by have := hnext.out; simpa using this)

theorem Try.chanBytes : (Try.prog.info? 3).map (·.bytes) = some 8 := by kernel_rfl

set_option maxRecDepth 100000 in
set_option maxHeartbeats 4000000 in
theorem new_at (q : Option Addr) (c n : Nat) (L : List Int) (w : World) (hq : ∀ i : Int, i = min (n : Int) 1000 → i = L.length) (hnc : n ≤ c) (hc2 : c ≤ 9223372036854775807) (hS : SrcI w w.heap.size q L) (hF : Fit L) (hl : L.length ≤ 1000) :
    Calls Try.prog 9 #[.slice q n c] w fun e w' => e = .returned (.pointer (some ⟨w.heap.size + 1, 0, none⟩)) ∧ PkP w' (w.heap.size + 2) (w.heap.size + 1) w.heap.size L ∧ Below w.heap.size w w' := by
  obtain ⟨i0, hi0, hb0⟩ := Option.map_eq_some_iff.1 Try.chanBytes
  have hmc : (Instr.makeChan 38 (.int .i64 (L.length : Int))).run Try.prog w = .ok (.chan (some w.heap.size)) (w.alloc (.chan L.length #[] false 0 0 false)) := by
    have := run_makeChan (P := Try.prog) (w := w) Try.underlying38 hi0 .i64 L.length (by omega) (by rw [hb0]; omega)
    simpa using this
  have last : ∀ cs, LoneTo Try.prog (NewEnds cs w w.heap.size L.length L) (G (Frame.enter Try.prog 9 #[.slice q n c] .normal) cs) w := by
    intro cs
    have e : Frame.enter Try.prog 9 #[.slice q n c] .normal = (base 9).at ⟨#[.slice q n c, undef, undef, undef, undef, undef, undef, undef, undef, undef, undef, undef, undef, undef, undef, undef, undef, undef, undef, undef, undef, undef, undef, undef, undef, undef], []⟩ [.code (Try.f9.body.getD .skip)] := by
      simp [Frame.enter, Frame.at, Try.func9, base, Try.f9]
    rw [e]
    have hle2 : (L.length : Int) ≤ (c : Int) := by have := hq _ rfl; omega
    have hle3 : L.length ≤ c := by omega
    have HS := Lib.hid hS
    have HF := Lib.hid hF
    clear hS hF
    by_cases hn : (1000 : Int) < (n : Int)
    · have hL : L.length = 1000 := by have := hq _ rfl; omega
      rw [hL] at hmc
      have hmc2 : (Instr.makeChan 38 (.int .i64 1000)).run Try.prog w = .ok (.chan (some w.heap.size)) (w.alloc (.chan 1000 #[] false 0 0 false)) := hmc
      have hle4 : (1000 : Int) ≤ (c : Int) := by omega
      have hle5 : 1000 ≤ c := by omega
      clear hmc hle2 hle3
      have HQ := Lib.hid hq
      clear hq
      refine LoneTo.goes (n := 60) ?_
      simp only [Try.f9, Option.getD_some]
      s_c stepG_seq
      s_reg
      s_op
      s_c stepG_region_end
      s_c stepG_seq
      s_reg
      s_op
      s_op
      s_op
      s_op
      s_op
      s_op
      s_c stepG_region_end
      s_c stepG_seq
      s_reg
      s_op
      s_op
      s_op
      s_op
      s_c stepG_region_end
      s_c stepG_seq
      s_c stepG_seq
      s_reg
      s_op
      s_op
      s_op
      s_c stepG_region_end
      s_c stepG_block
      s_c stepG_loop
      s_stop
      rw [hL]
      exact new_loop w w.heap.size 1000 c q L cs hL (by omega) HS.out 1000 0 _ _ _ _ _ _ _ _ _ _ _ _ _ _ _ _ _ _ _ _ _ _ _ (by omega) ⟨⟨0, 0, by rw [heap_alloc_new]; simp⟩, (Below.refl _ _).alloc (Nat.le_refl _) _, by simp⟩
    · have hL : n = L.length := by have := hq _ rfl; omega
      have HQ := Lib.hid hq
      clear hq
      subst hL
      refine LoneTo.goes (n := 60) ?_
      simp only [Try.f9, Option.getD_some]
      s_c stepG_seq
      s_reg
      s_op
      s_c stepG_region_end
      s_c stepG_seq
      s_reg
      s_op
      s_op
      s_op
      s_op
      s_op
      s_op
      s_c stepG_region_end
      s_c stepG_seq
      s_reg
      s_op
      s_op
      s_op
      s_op
      s_c stepG_region_end
      s_c stepG_seq
      s_c stepG_seq
      s_reg
      s_op
      s_op
      s_op
      s_c stepG_region_end
      s_c stepG_block
      s_c stepG_loop
      s_stop
      exact new_loop w w.heap.size L.length c q L cs rfl hl HS.out L.length 0 _ _ _ _ _ _ _ _ _ _ _ _ _ _ _ _ _ _ _ _ _ _ _ (by omega) ⟨⟨0, 0, by rw [heap_alloc_new]; simp⟩, (Below.refl _ _).alloc (Nat.le_refl _) _, by simp⟩
  refine calls_of_loneTo fun cs => LoneTo.mono_ (last cs) ?_
  rintro g' w' ⟨e, fr, rfl, ⟨rfl, W, rfl, hM⟩, h3, h4⟩
  exact ⟨_, fr, rfl, ⟨rfl, hM.done hF, hM.bel.alloc (by rw [hM.size]; omega) _⟩, h3, h4⟩

theorem new_any (q : Option Addr) (c : Nat) (L : List Int) (w : World) (hc : L.length ≤ c) (hc2 : c ≤ 9223372036854775807) (hS : SrcI w w.heap.size q L) (hF : Fit L) :
    Calls Try.prog 9 #[.slice q L.length c] w fun e w' => e = .returned (.pointer (some ⟨w.heap.size + 1, 0, none⟩)) ∧ PkP w' (w.heap.size + 2) (w.heap.size + 1) w.heap.size (L.take 1000) ∧ Below w.heap.size w w' :=
  new_at q c L.length (L.take 1000) w (fun i h => by rw [List.length_take]; omega) hc hc2 (hS.take 1000) (fun x hx => hF x (List.mem_of_mem_take hx)) (by rw [List.length_take]; omega)

end Go.Proofs.Ytklfccdjmlmmgaa
