/- The document's own answer to Decode. -/
import Derived.Test.YtmhcdmebienlpaaRefEnc
import Derived.Test.YtmhcdmebienlpaaRowPure
namespace Go.Proofs.Ytmhcdmebienlpaa
open Go.RowKit

/-- How many bytes the reference takes for one value. -/
def refN (u : ByteArray) : Nat := if at_ u 0 = 1 then 9 else if at_ u 0 = 2 then 2 else if at_ u 0 = 3 then 2 + (at_ u 1).toNat else 1
/-- What the reference makes of bytes, ahead of writing it again. -/
def refRun : Nat → ByteArray → List Val → Option (List Val)
  | 0, _, acc => some acc
  | f + 1, u, acc => if u.size = 0 then some acc else if u.size < refN u then none else refRun f (u.extract (refN u) u.size) (acc ++ [decVal (u.extract 0 (refN u))])

theorem refN_pos (u : ByteArray) : 1 ≤ refN u := by unfold refN; repeat (split <;> try omega)

theorem refRun_fuel : ∀ (f g : Nat) (u : ByteArray) (acc : List Val), u.size ≤ f → u.size ≤ g → refRun f u acc = refRun g u acc := by
  intro f
  induction f with
  | zero =>
    intro g u acc hf hg
    cases g with
    | zero => rfl
    | succ g => rw [refRun, refRun, if_pos (by omega)]
  | succ f ih =>
    intro g u acc hf hg
    cases g with
    | zero => rw [refRun, refRun, if_pos (by omega)]
    | succ g =>
      rw [refRun, refRun]
      by_cases h0 : u.size = 0
      · rw [if_pos h0, if_pos h0]
      rw [if_neg h0, if_neg h0]
      by_cases hb : u.size < refN u
      · rw [if_pos hb, if_pos hb]
      rw [if_neg hb, if_neg hb]
      have hs := size_rest u (refN u)
      have hp := refN_pos u
      rw [ih g _ _ (by omega) (by omega)]

theorem refN_first (u : ByteArray) (h0 : firstN u ≠ 0) : (refN u : Int) = firstN u := by
  have l1 := at_lt u 1
  unfold firstN at h0 ⊢
  unfold refN
  by_cases a0 : at_ u 0 = 0
  · simp [a0]
  by_cases a1 : at_ u 0 = 1
  · simp [a1]
  by_cases a2 : at_ u 0 = 2
  · simp [a2]
  by_cases a3 : at_ u 0 = 3
  · simp only [a3] at h0 ⊢
    simp at h0 ⊢
    split
    · omega
    · rename_i h; exact absurd h0.1 h
  · simp [a0, a1, a2, a3] at h0

/-- What is read is what the reference makes of it. -/
theorem ref_dec : ∀ (f : Nat) (u : ByteArray) (acc l : List Val), decRun f u acc = some l → refRun f u acc = some l := by
  intro f
  induction f with
  | zero => intro u acc l h; exact h
  | succ f ih =>
    intro u acc l h
    rw [decRun] at h
    rw [refRun]
    by_cases h0 : u.size = 0
    · rw [if_pos h0] at h ⊢; exact h
    rw [if_neg h0] at h ⊢
    by_cases hb : firstN u = 0 ∨ (u.size : Int) < firstN u ∨ acc.length = 100
    · rw [if_pos hb] at h; cases h
    rw [if_neg hb] at h
    have hN := refN_first u (fun h => hb (.inl h))
    have hN2 : (firstN u).toNat = refN u := by omega
    rw [hN2] at h
    rw [if_neg (by intro h'; exact hb (.inr (.inl (by omega))))]
    cases hr : (decVal (u.extract 0 (refN u))).right
    · rw [hr] at h; cases h
    · rw [hr, if_pos rfl] at h
      exact ih _ _ _ h

theorem inR_decVal (c : ByteArray) : inR (decVal c).n = true := by
  have a1 := at_lt c 1
  have hw : -9223372036854775808 ≤ wrap64 (dec8 c 8) ∧ wrap64 (dec8 c 8) ≤ 9223372036854775807 := by unfold wrap64; omega
  unfold decVal inR
  simp only [decide_eq_true_eq]
  repeat (split <;> try (first | exact hw | (dsimp only; omega)))
theorem refRun_inR : ∀ (f : Nat) (u : ByteArray) (acc l : List Val), (∀ v ∈ acc, inR v.n = true) → refRun f u acc = some l → ∀ v ∈ l, inR v.n = true := by
  intro f
  induction f with
  | zero => intro u acc l ha h; rw [refRun] at h; cases h; exact ha
  | succ f ih =>
    intro u acc l ha h
    rw [refRun] at h
    by_cases h0 : u.size = 0
    · rw [if_pos h0] at h; cases h; exact ha
    rw [if_neg h0] at h
    by_cases hb : u.size < refN u
    · rw [if_pos hb] at h; cases h
    rw [if_neg hb] at h
    refine ih _ _ _ ?_ h
    intro v hv
    rcases List.mem_append.1 hv with hv | hv
    · exact ha v hv
    · rw [List.mem_singleton.1 hv]; exact inR_decVal _

/-- A list of values as a row. -/
abbrev rowOf (L : List Val) : Nat → Val := fun i => L[i]?.getD nul

/-- The reference's whole answer is the program's. -/
theorem ref_whole (s : ByteArray) : decRun s.size s [] = (match refRun s.size s [] with | none => none | some l => if encE l.length (rowOf l) = 0 ∧ encS l.length (rowOf l) = s then some l else none) := by
  cases hd : decRun s.size s [] with
  | some l =>
    have hr := ref_dec _ _ _ _ hd
    obtain ⟨m, h1, h2, h3, h4⟩ := dec_enc _ _ _ _ (Nat.le_refl _) (by simp) hd
    obtain rfl : l = m := by simpa using h1
    obtain ⟨e1, e2, _⟩ := enc_list h2 h3 h4
    rw [hr]
    simp only
    rw [if_pos ⟨e1, e2⟩]
  | none =>
    cases hr : refRun s.size s [] with
    | none => rfl
    | some l =>
      simp only
      by_cases hc : encE l.length (rowOf l) = 0 ∧ encS l.length (rowOf l) = s
      · exfalso
        have hi := refRun_inR _ _ _ _ (by simp) hr
        have := read_back hc.1 (fun i hi' => by
          show inR (l[i]?.getD nul).n = true
          rw [List.getElem?_eq_getElem hi']
          exact hi _ (List.getElem_mem hi'))
        rw [hc.2, range_list, hd] at this
        cases this
      · rw [if_neg hc]

/-- Eight bytes into a number, as the reference does it. -/
def dec8i (s : ByteArray) (o : Nat) : Nat → Int
  | 0 => 0
  | k + 1 => bits BinOp.or IntKind.i64 (wrap64 (dec8i s o k * 256)) (at_ s (o + k))
theorem or_i64 (A b : Int) : bits BinOp.or IntKind.i64 (wrap64 A) b = wrap64 (bits BinOp.or IntKind.u64 (IntKind.u64.wrap A) b) := by
  have e1 : BitVec.ofInt 64 (wrap64 A) = BitVec.ofInt 64 A := by
    apply BitVec.eq_of_toInt_eq
    rw [BitVec.toInt_ofInt, BitVec.toInt_ofInt]
    unfold wrap64
    simp [Int.bmod]
  have e2 : BitVec.ofInt 64 (IntKind.u64.wrap A) = BitVec.ofInt 64 A := by
    apply BitVec.eq_of_toInt_eq
    rw [BitVec.toInt_ofInt, BitVec.toInt_ofInt]
    simp [IntKind.wrap, IntKind.bits, IntKind.signed, Int.bmod]
  have h1 : bits BinOp.or IntKind.i64 (wrap64 A) b = IntKind.i64.wrap ((BitVec.ofInt 64 (wrap64 A) ||| BitVec.ofInt 64 b).toNat : Int) := rfl
  have h2 : bits BinOp.or IntKind.u64 (IntKind.u64.wrap A) b = IntKind.u64.wrap ((BitVec.ofInt 64 (IntKind.u64.wrap A) ||| BitVec.ofInt 64 b).toNat : Int) := rfl
  rw [h1, h2, e1, e2]
  generalize ((BitVec.ofInt 64 A ||| BitVec.ofInt 64 b).toNat : Int) = z
  rw [IntKind.wrap_i64]
  simp only [IntKind.wrap, IntKind.bits, IntKind.signed]
  unfold wrap64
  simp

theorem dec8i_eq (s c : ByteArray) (o : Nat) (h : ∀ j, j < 8 → at_ c (1 + j) = at_ s (o + j)) : ∀ k, k ≤ 8 → dec8i s o k = wrap64 (dec8 c k) := by
  intro k
  induction k with
  | zero => intro _; simp [dec8i, dec8, wrap64]
  | succ k ih =>
    intro hk
    have e : wrap64 (wrap64 (dec8 c k) * 256) = wrap64 (dec8 c k * 256) := by unfold wrap64; omega
    rw [dec8i, dec8, ih (by omega), e, or_i64, h k (by omega)]

theorem at_tail (s : ByteArray) (o j : Nat) (h : o + j < s.size) : at_ (s.extract o s.size) j = at_ s (o + j) := by
  unfold at_
  have e : (s.extract o s.size).data = s.data.extract o s.size := by simp [ByteArray.data_extract]
  have hm : min s.size s.data.size = s.size := Nat.min_self _
  rw [e, Array.getElem?_extract, hm, if_pos (by omega)]

theorem tail_tail (s : ByteArray) (o N : Nat) : (s.extract o s.size).extract N (s.extract o s.size).size = s.extract (o + N) s.size := by
  apply ByteArray.ext
  apply Array.ext'
  rw [data_drop, data_drop, data_drop, List.drop_drop]
theorem chunk_at (s : ByteArray) (o N j : Nat) (hj : j < N) (h : o + N ≤ s.size) : at_ ((s.extract o s.size).extract 0 N) j = at_ s (o + j) := by
  rw [at_extract _ N j hj (by rw [size_rest]; omega), at_tail s o j (by omega)]
theorem chunk_size (s : ByteArray) (o N : Nat) (h : o + N ≤ s.size) : ((s.extract o s.size).extract 0 N).size = N := size_extract0 _ _ (by rw [size_rest]; omega)
theorem chunk_text (s : ByteArray) (o n : Nat) : ((s.extract o s.size).extract 0 (2 + n)).extract 2 ((s.extract o s.size).extract 0 (2 + n)).size = s.extract (o + 2) (o + 2 + n) := by
  apply ByteArray.ext
  apply Array.ext'
  have e : (s.extract (o + 2) (o + 2 + n)).data.toList = (s.data.toList.drop (o + 2)).take n := by
    rw [ByteArray.data_extract, Array.toList_extract, List.extract_eq_take_drop]
    congr 1
    omega
  rw [data_drop, data_take, data_drop, e, List.drop_take, List.drop_drop]
  congr 1
  omega

theorem ref_step (s : ByteArray) (o N : Nat) (acc : List Val) (val : Val) (R : Option (List Val)) (hN : refN (s.extract o s.size) = N) (hle : o + N ≤ s.size) (ho : o < s.size)
    (hv : decVal ((s.extract o s.size).extract 0 N) = val) (h : refRun (s.size - o) (s.extract o s.size) acc = R) : refRun (s.size - (o + N)) (s.extract (o + N) s.size) (acc ++ [val]) = R := by
  obtain ⟨f, hf⟩ : ∃ f, s.size - o = f + 1 := ⟨s.size - o - 1, by omega⟩
  have hu := size_rest s o
  have hp := refN_pos (s.extract o s.size)
  have hu2 := size_rest s (o + N)
  rw [hf, refRun, if_neg (by omega), hN, if_neg (by omega), hv, tail_tail s o N] at h
  rw [← h]
  exact refRun_fuel _ _ _ _ (by omega) (by omega)
theorem ref_stop (s : ByteArray) (o N : Nat) (acc : List Val) (R : Option (List Val)) (hN : refN (s.extract o s.size) = N) (hgt : s.size < o + N) (ho : o < s.size)
    (h : refRun (s.size - o) (s.extract o s.size) acc = R) : R = none := by
  obtain ⟨f, hf⟩ : ∃ f, s.size - o = f + 1 := ⟨s.size - o - 1, by omega⟩
  have hu := size_rest s o
  rw [hf, refRun, if_neg (by omega), hN, if_pos (by omega)] at h
  exact h.symm

/-- What the reference's Decode answers. -/
def IsDecB (B : Nat) (o : Option (List Val)) (e : Ending) (w : World) : Prop :=
  match o with
  | none => e = .returned (.tuple #[.slice none 0 0, .bool false])
  | some l => ∃ v, e = .returned (.tuple #[v, .bool true]) ∧ OwnV w B v l

theorem VBox.setN {W : World} {b : Nat} {k m : Int} {s : ByteArray} (h : VBox W b ⟨k, m, s⟩) (n : Int) : VBox (W.setCell ⟨b, 1, none⟩ (.int .i64 n)) b ⟨k, n, s⟩ := by
  unfold VBox at h ⊢
  rw [setCell_eq_setRow W b 1 _ _ _ _ h]
  exact setRow_heap W b _ _ _ _ h
theorem VBox.setS {W : World} {b : Nat} {k m : Int} {s : ByteArray} (h : VBox W b ⟨k, m, s⟩) (n : ByteArray) : VBox (W.setCell ⟨b, 2, none⟩ (.string n)) b ⟨k, m, n⟩ := by
  unfold VBox at h ⊢
  rw [setCell_eq_setRow W b 2 _ _ _ _ h]
  exact setRow_heap W b _ _ _ _ h

set_option maxRecDepth 100000 in
set_option maxHeartbeats 4000000 in
theorem rdecode_any (s : ByteArray) (w : World) (hs : s.size ≤ 4398046511103) :
    Calls Try.prog 13 #[.string s] w fun e w' => IsDecB w.heap.size (decRun s.size s []) e w' ∧ Below w.heap.size w w' := by
  go_enter Try.func13, Try.ntmps13
  go_wp2
  go_loopw [4, 5] (fun v t wr => ∃ (o : Nat) (acc : List Val), t = .int .i64 o ∧ o ≤ s.size ∧ acc.length ≤ o ∧ OwnV wr w.heap.size v acc ∧ Below w.heap.size w wr ∧ Hid (refRun (s.size - o) (s.extract o s.size) acc = refRun s.size s [])) (fun _ t _ => s.size - (intOf t).toNat)
  case atStart => exact ⟨0, [], rfl, Nat.zero_le _, Nat.le_refl _, OwnV.nil _ _, ext_refl _, by show _ = _; rw [show s.extract 0 s.size = s by simp]; rfl⟩
  case round =>
    obtain ⟨o, acc, rfl, ho, hal, HO, hE, HD⟩ := hrel
    obtain ⟨p, cap, rfl, R0, _, hcm⟩ := HO.row
    by_cases hlt : o < s.size
    · have t0 : at_ (s.extract o s.size) 0 = at_ s o := at_tail s o 0 (by omega)
      have e0 : wrap64 (s[o].toNat : Int) = at_ s o := byte_at s o hlt
      have l0 := at_lt s o
      by_cases k1 : at_ s o = 1
      · have hN : refN (s.extract o s.size) = 9 := by unfold refN; rw [t0]; simp [k1]
        rw [k1] at e0
        by_cases h9 : o + 9 ≤ s.size
        · have hv : decVal ((s.extract o s.size).extract 0 9) = ⟨1, dec8i s (o + 1) 8, ⟨#[]⟩⟩ := by
            have c0 := chunk_at s o 9 0 (by omega) (by omega)
            rw [Nat.add_zero, k1] at c0
            have cc := dec8i_eq s ((s.extract o s.size).extract 0 9) (o + 1) (fun j hj => by rw [chunk_at s o 9 (1 + j) (by omega) (by omega), Nat.add_assoc]) 8 (by omega)
            unfold decVal
            rw [c0, cc]
            simp
          have HS := Lib.hid (ref_step s o 9 acc _ _ hN (by omega) hlt hv HD.out)
          clear hN hv t0 HD
          go_wp2
          go_loopw [8] (fun i wq => ∃ j : Nat, j ≤ 8 ∧ i = .int .i64 j ∧ VBox wq wr.heap.size ⟨1, dec8i s (o + 1) j, ⟨#[]⟩⟩ ∧ Below wr.heap.size wr wq) (fun i _ => 8 - (intOf i).toNat)
          case atStart => exact ⟨0, by omega, rfl, heap_alloc_new _ _, by (repeat (first | exact ext_refl _ | assumption | (refine ext_alloc ?_ _) | (refine ext_drewN ?_ _) | refine ext_drew ?_ | (refine ext_set (by first | (simp; done) | (simp; omega)) _ ?_) | (refine ext_trans ?_ (by assumption))))⟩
          case round =>
            obtain ⟨j, hj, rfl, VB, hq⟩ := hrel
            clear e0
            by_cases hlt8 : j < 8
            · have n1 := VB.c1
              have f1 := Lib.frozen_of_heap VB 1
              have hix : o + 1 + j < s.size := by omega
              have e1 : wrap64 (s[o + 1 + j].toNat : Int) = at_ s (o + 1 + j) := byte_at s _ hix
              have w1 : IntKind.i64.wrap ((o : Int) + 1 + (j : Int)) = (o : Int) + 1 + (j : Int) := by rw [IntKind.wrap_i64]; omega
              have w3 : (o : Int) + 1 + (j : Int) < s.size := by omega
              have w4 : (0 : Int) ≤ (o : Int) + 1 + (j : Int) := by omega
              have w2 : ((o : Int) + 1 + (j : Int)).toNat = o + 1 + j := by omega
              go_wp2_with fail
              go_region
              go_wp2
              go_roundw
              case rel => exact ⟨j + 1, by omega, by go_num, VB.setN _, (hq.setCell (p := ⟨_, 1, none⟩) (Nat.le_refl _) _).drew⟩
              case measure => simp [intOf]; omega
            · have hj8 : j = 8 := by omega
              subst hj8
              have n0 := VB.c0
              have n1 := VB.c1
              have n2 := VB.c2
              have hqs := hq.size
              go_wp2_with (at_builtin; refine wp_append_val rfl _ _ rfl w.heap.size _ acc rfl (HO.later ?c1) ⟨1, dec8i s (o + 1) 8, ⟨#[]⟩⟩ _ _ rfl ?c2 ?c3 ?c4 ?c5 ?c6 ?_)
              try (case c1 => ((repeat (first | exact ext_refl _ | assumption | (refine ext_alloc ?_ _) | (refine ext_drewN ?_ _) | refine ext_drew ?_ | (refine ext_set (by first | (simp; done) | (simp; omega)) _ ?_) | (refine ext_trans ?_ (by assumption))))))
              try (case c2 => (simp [go_sem]))
              try (case c3 => (simp [go_sem]))
              try (case c4 => (simp [go_sem]))
              try (case c5 => (omega))
              try (case c6 => (have := hE.size; first | omega | (simp; omega)))
              intro v5 w5 HO5 hb5
              go_wp2
              go_roundw
              case rel => exact ⟨o + 9, acc ++ [_], congrArg (Value.int .i64) (by omega), by omega, by simp; omega, HO5, Below.trans (ext_alloc (ext_trans hE hq) _) hb5, HS.out⟩
              case measure => simp [intOf]; omega
        · have HS := Lib.hid (ref_stop s o 9 acc _ hN (by omega) hlt HD.out)
          clear hN t0 HD
          go_wp2
          go_ret2
          refine ⟨?_, by (repeat (first | exact ext_refl _ | assumption | (refine ext_alloc ?_ _) | (refine ext_drewN ?_ _) | refine ext_drew ?_ | (refine ext_set (by first | (simp; done) | (simp; omega)) _ ?_) | (refine ext_trans ?_ (by assumption))))⟩
          rw [ref_whole, HS.out]
          rfl
      by_cases k2 : at_ s o = 2
      · have hN : refN (s.extract o s.size) = 2 := by unfold refN; rw [t0]; simp [k2]
        by_cases h2 : o + 2 ≤ s.size
        · have hv : decVal ((s.extract o s.size).extract 0 2) = ⟨2, at_ s (o + 1), ⟨#[]⟩⟩ := by
            have c0 := chunk_at s o 2 0 (by omega) (by omega)
            have c1 := chunk_at s o 2 1 (by omega) (by omega)
            rw [Nat.add_zero] at c0
            unfold decVal
            rw [c0, c1]
            simp [k2]
          have HS := Lib.hid (ref_step s o 2 acc _ _ hN (by omega) hlt hv HD.out)
          have e1 : wrap64 (s[o + 1].toNat : Int) = at_ s (o + 1) := byte_at s _ (by omega)
          rw [k2] at e0
          clear hN hv t0 HD
          go_wp2_with (at_builtin; refine wp_append_val rfl _ _ rfl w.heap.size _ acc rfl (HO.later ?b1) ⟨2, at_ s (o + 1), ⟨#[]⟩⟩ _ _ rfl ?b2 ?b3 ?b4 ?b5 ?b6 ?_)
          try (case b1 => ((repeat (first | exact ext_refl _ | assumption | (refine ext_alloc ?_ _) | (refine ext_drewN ?_ _) | refine ext_drew ?_ | (refine ext_set (by first | (simp; done) | (simp; omega)) _ ?_) | (refine ext_trans ?_ (by assumption))))))
          try (case b2 => (simp [go_sem]))
          try (case b3 => (simp [go_sem]))
          try (case b4 => (simp [go_sem]))
          try (case b5 => (omega))
          try (case b6 => (have := hE.size; first | omega | (simp; omega)))
          intro v5 w5 HO5 hb5
          go_wp2
          go_roundw
          case rel => exact ⟨o + 2, acc ++ [_], congrArg (Value.int .i64) (by omega), by omega, by simp; omega, HO5, Below.trans (by (repeat (first | exact ext_refl _ | assumption | (refine ext_alloc ?_ _) | (refine ext_drewN ?_ _) | refine ext_drew ?_ | (refine ext_set (by first | (simp; done) | (simp; omega)) _ ?_) | (refine ext_trans ?_ (by assumption))))) hb5, HS.out⟩
          case measure => simp [intOf]; omega
        · have HS := Lib.hid (ref_stop s o 2 acc _ hN (by omega) hlt HD.out)
          rw [k2] at e0
          clear hN t0 HD
          go_wp2
          go_ret2
          refine ⟨?_, by (repeat (first | exact ext_refl _ | assumption | (refine ext_alloc ?_ _) | (refine ext_drewN ?_ _) | refine ext_drew ?_ | (refine ext_set (by first | (simp; done) | (simp; omega)) _ ?_) | (refine ext_trans ?_ (by assumption))))⟩
          rw [ref_whole, HS.out]
          rfl
      by_cases k3 : at_ s o = 3
      · rw [k3] at e0
        by_cases h2 : o + 2 ≤ s.size
        · have t1 : at_ (s.extract o s.size) 1 = at_ s (o + 1) := at_tail s o 1 (by omega)
          have l1 := at_lt s (o + 1)
          have e1 : wrap64 (s[o + 1].toNat : Int) = at_ s (o + 1) := byte_at s _ (by omega)
          obtain ⟨m, hm⟩ : ∃ m : Nat, at_ s (o + 1) = m := ⟨(at_ s (o + 1)).toNat, (Int.toNat_of_nonneg l1.1).symm⟩
          rw [hm] at t1 e1 l1
          have hN : refN (s.extract o s.size) = 2 + m := by unfold refN; rw [t0, t1]; simp [k3]
          by_cases h3 : o + (2 + m) ≤ s.size
          · have hv : decVal ((s.extract o s.size).extract 0 (2 + m)) = ⟨3, 0, s.extract (o + 1 + 1) (o + 1 + 1 + m)⟩ := by
              have c0 := chunk_at s o (2 + m) 0 (by omega) h3
              rw [Nat.add_zero] at c0
              have ct := chunk_text s o m
              unfold decVal
              rw [c0, k3, ct]
              rfl
            have HS := Lib.hid (ref_step s o (2 + m) acc _ _ hN h3 hlt hv HD.out)
            clear hN hv t0 t1 HD hm
            go_wp2_with (at_builtin; refine wp_append_val rfl _ _ rfl w.heap.size _ acc rfl (HO.later ?d1) ⟨3, 0, s.extract (o + 1 + 1) (o + 1 + 1 + m)⟩ _ _ rfl ?d2 ?d3 ?d4 ?d5 ?d6 ?_)
            try (case d1 => ((repeat (first | exact ext_refl _ | assumption | (refine ext_alloc ?_ _) | (refine ext_drewN ?_ _) | refine ext_drew ?_ | (refine ext_set (by first | (simp; done) | (simp; omega)) _ ?_) | (refine ext_trans ?_ (by assumption))))))
            try (case d2 => (simp [go_sem]))
            try (case d3 => (simp [go_sem]))
            try (case d4 => (simp [go_sem]))
            try (case d5 => (omega))
            try (case d6 => (have := hE.size; first | omega | (simp; omega)))
            intro v5 w5 HO5 hb5
            go_wp2
            go_roundw
            case rel => exact ⟨o + (2 + m), acc ++ [_], congrArg (Value.int .i64) (by omega), by omega, by simp; omega, HO5, Below.trans (by (repeat (first | exact ext_refl _ | assumption | (refine ext_alloc ?_ _) | (refine ext_drewN ?_ _) | refine ext_drew ?_ | (refine ext_set (by first | (simp; done) | (simp; omega)) _ ?_) | (refine ext_trans ?_ (by assumption))))) hb5, HS.out⟩
            case measure => simp [intOf]; omega
          · have HS := Lib.hid (ref_stop s o (2 + m) acc _ hN (by omega) hlt HD.out)
            clear hN t0 t1 HD hm
            go_wp2
            go_ret2
            refine ⟨?_, by (repeat (first | exact ext_refl _ | assumption | (refine ext_alloc ?_ _) | (refine ext_drewN ?_ _) | refine ext_drew ?_ | (refine ext_set (by first | (simp; done) | (simp; omega)) _ ?_) | (refine ext_trans ?_ (by assumption))))⟩
            rw [ref_whole, HS.out]
            rfl
        · have hN : refN (s.extract o s.size) = 2 := by
            have t1 : at_ (s.extract o s.size) 1 = 0 := by
              unfold at_
              have hz : (s.extract o s.size).data.size ≤ 1 := by
                have := size_rest s o
                have e : (s.extract o s.size).data.size = (s.extract o s.size).size := rfl
                omega
              rw [Array.getElem?_eq_none hz]
              rfl
            unfold refN
            rw [t0, t1]
            simp [k3]
          have HS := Lib.hid (ref_stop s o 2 acc _ hN (by omega) hlt HD.out)
          clear hN t0 HD
          go_wp2
          go_ret2
          refine ⟨?_, by (repeat (first | exact ext_refl _ | assumption | (refine ext_alloc ?_ _) | (refine ext_drewN ?_ _) | refine ext_drew ?_ | (refine ext_set (by first | (simp; done) | (simp; omega)) _ ?_) | (refine ext_trans ?_ (by assumption))))⟩
          rw [ref_whole, HS.out]
          rfl
      · have hN : refN (s.extract o s.size) = 1 := by unfold refN; rw [t0]; simp [k1, k2, k3]
        have hv : decVal ((s.extract o s.size).extract 0 1) = ⟨at_ s o, 0, ⟨#[]⟩⟩ := by
          have c0 := chunk_at s o 1 0 (by omega) (by omega)
          rw [Nat.add_zero] at c0
          unfold decVal
          rw [c0]
          simp [k1, k2, k3]
        have HS := Lib.hid (ref_step s o 1 acc _ _ hN (by omega) hlt hv HD.out)
        have b1 : (at_ s o == 1) = false := by simpa using k1
        have b2 : (at_ s o == 2) = false := by simpa using k2
        have b3 : (at_ s o == 3) = false := by simpa using k3
        clear hN hv t0 HD
        go_wp2_with (at_builtin; refine wp_append_val rfl _ _ rfl w.heap.size _ acc rfl (HO.later ?a1) ⟨at_ s o, 0, ⟨#[]⟩⟩ _ _ rfl ?a2 ?a3 ?a4 ?a5 ?a6 ?_)
        try (case a1 => ((repeat (first | exact ext_refl _ | assumption | (refine ext_alloc ?_ _) | (refine ext_drewN ?_ _) | refine ext_drew ?_ | (refine ext_set (by first | (simp; done) | (simp; omega)) _ ?_) | (refine ext_trans ?_ (by assumption))))))
        try (case a2 => (simp [go_sem]))
        try (case a3 => (simp [go_sem]))
        try (case a4 => (simp [go_sem]))
        try (case a5 => (omega))
        try (case a6 => (have := hE.size; first | omega | (simp; omega)))
        intro v5 w5 HO5 hb5
        go_wp2
        go_roundw
        case rel => exact ⟨o + 1, acc ++ [_], congrArg (Value.int .i64) (by omega), by omega, by simp; omega, HO5, Below.trans (by (repeat (first | exact ext_refl _ | assumption | (refine ext_alloc ?_ _) | (refine ext_drewN ?_ _) | refine ext_drew ?_ | (refine ext_set (by first | (simp; done) | (simp; omega)) _ ?_) | (refine ext_trans ?_ (by assumption))))) hb5, HS.out⟩
        case measure => simp [intOf]; omega
    · have hos : o = s.size := by omega
      subst hos
      have HR : refRun s.size s [] = some acc := by
        have h := HD.out
        rw [Nat.sub_self, refRun] at h
        exact h.symm
      have HW := ref_whole s
      rw [HR] at HW
      simp only at HW
      have hal2 : acc.length ≤ 9223372036854775807 := by omega
      by_cases hc : encE acc.length (rowOf acc) = 0
      · by_cases hq : encS acc.length (rowOf acc) = s
        · rw [if_pos ⟨hc, hq⟩] at HW
          have HWW := Lib.hid HW
          clear HW HR HD
          go_wp2_with fail
          refine (rencode_any p acc.length cap (rowOf acc) _ hal2 R0).mono ?_
          rintro e w2 ⟨rfl, hb2⟩
          rw [hq]
          go_wp2
          go_ret2
          refine ⟨?_, ext_trans hE hb2⟩
          rw [HWW.out]
          exact ⟨_, rfl, HO.later hb2⟩
        · rw [if_neg (fun h => hq h.2)] at HW
          have HWW := Lib.hid HW
          have hne : ((encS acc.length (rowOf acc)).toList == s.toList) = false := by
            rw [beq_eq_false_iff_ne]
            intro h
            apply hq
            apply ByteArray.ext
            rw [ByteArray.toList_eq, ByteArray.toList_eq] at h
            exact Array.toList_inj.1 h
          clear HW HR HD
          go_wp2_with fail
          refine (rencode_any p acc.length cap (rowOf acc) _ hal2 R0).mono ?_
          rintro e w2 ⟨rfl, hb2⟩
          go_wp2
          go_ret2
          refine ⟨?_, ext_trans hE hb2⟩
          rw [HWW.out]
          rfl
      · rw [if_neg (fun h => hc h.1)] at HW
        have HWW := Lib.hid HW
        have hne : (encE acc.length (rowOf acc) != 0) = true := by simpa using hc
        clear HW HR HD
        go_wp2_with fail
        refine (rencode_any p acc.length cap (rowOf acc) _ hal2 R0).mono ?_
        rintro e w2 ⟨rfl, hb2⟩
        go_wp2
        go_ret2
        refine ⟨?_, ext_trans hE hb2⟩
        rw [HWW.out]
        rfl

end Go.Proofs.Ytmhcdmebienlpaa
