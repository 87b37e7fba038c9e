/- Compare is an order. No program is walked here. -/
import Derived.Test.YtflbeccfdbjbhaaValH
namespace Go.Proofs.Ytflbeccfdbjbhaa
open Go.RowKit
theorem bl_trans : ∀ a b c : List UInt8, Op.bytesLess a b = true → Op.bytesLess b c = true → Op.bytesLess a c = true
  | _, [], _, h, _ => by simp [Op.bytesLess] at h
  | _, _ :: _, [], _, h => by simp [Op.bytesLess] at h
  | [], _ :: _, _ :: _, _, _ => rfl
  | a :: x, b :: y, c :: z, h, h' => by
    simp only [Op.bytesLess, Bool.or_eq_true, decide_eq_true_eq, Bool.and_eq_true, beq_iff_eq] at h h' ⊢
    rcases h with h | ⟨rfl, h⟩
    · rcases h' with h' | ⟨rfl, _⟩
      · exact .inl (UInt8.lt_trans h h')
      · exact .inl h
    · rcases h' with h' | ⟨rfl, h'⟩
      · exact .inl h'
      · exact .inr ⟨rfl, bl_trans x y z h h'⟩
theorem bl_total : ∀ a b : List UInt8, a ≠ b → Op.bytesLess a b = false → Op.bytesLess b a = true
  | [], [], h, _ => absurd rfl h
  | [], _ :: _, _, h => by simp [Op.bytesLess] at h
  | _ :: _, [], _, _ => rfl
  | a :: x, b :: y, h, h' => by
    simp only [Op.bytesLess, Bool.or_eq_false_iff, decide_eq_false_iff_not, Bool.and_eq_false_iff, beq_eq_false_iff_ne] at h'
    simp only [Op.bytesLess, Bool.or_eq_true, decide_eq_true_eq, Bool.and_eq_true, beq_iff_eq]
    by_cases e : a = b
    · subst e
      refine .inr ⟨rfl, bl_total x y (fun e' => h (by rw [e'])) ?_⟩
      rcases h'.2 with h2 | h2
      · exact absurd rfl h2
      · exact h2
    · left
      have h1 := h'.1
      rw [UInt8.lt_iff_toNat_lt] at h1 ⊢
      have : a.toNat ≠ b.toNat := fun e' => e (UInt8.toNat_inj.1 e')
      omega
theorem bl_anti (a b : List UInt8) (h : Op.bytesLess a b = true) : Op.bytesLess b a = false := by
  cases h' : Op.bytesLess b a
  · rfl
  · have := bl_trans a b a h h'
    rw [bytesLess_self] at this
    cases this

/-- What an order's answers have to do with each other: of a and b, of b and a, of b and c, of a and c. -/
structure Ord3 (x x' y z : Int) : Prop where
  anti : x' = -x
  le : x ≤ 0 → y ≤ 0 → z ≤ 0
  lt1 : x < 0 → y ≤ 0 → z < 0
  lt2 : x ≤ 0 → y < 0 → z < 0
  eq1 : x = 0 → z = y
  eq2 : y = 0 → z = x

theorem ordI_ord (a b c : Int) : Ord3 (ordI a b) (ordI b a) (ordI b c) (ordI a c) := by
  unfold ordI
  constructor <;> (split <;> split <;> (try split) <;> (try split) <;> (try split) <;> (try split) <;> omega)

theorem ordS_cases (a b : ByteArray) : (Op.bytesLess a.toList b.toList = true ∧ a.toList ≠ b.toList ∧ ordS a b = -1 ∧ ordS b a = 1) ∨ (a.toList = b.toList ∧ ordS a b = 0 ∧ ordS b a = 0) ∨ (Op.bytesLess b.toList a.toList = true ∧ a.toList ≠ b.toList ∧ ordS a b = 1 ∧ ordS b a = -1) := by
  by_cases h : a.toList = b.toList
  · right; left
    refine ⟨h, ?_, ?_⟩
    · unfold ordS; rw [h, bytesLess_self]; simp
    · unfold ordS; rw [h, bytesLess_self]; simp
  · have h' : ¬ b.toList = a.toList := fun e => h e.symm
    cases h1 : Op.bytesLess a.toList b.toList
    · right; right
      have h2 := bl_total _ _ h h1
      refine ⟨h2, h, ?_, ?_⟩
      · unfold ordS; rw [h1, if_neg h]; rfl
      · unfold ordS; rw [h2]; rfl
    · left
      have h2 := bl_anti _ _ h1
      refine ⟨rfl, h, ?_, ?_⟩
      · unfold ordS; rw [h1]; rfl
      · unfold ordS; rw [h2, if_neg h']; rfl

theorem ordS_ord (a b c : ByteArray) : Ord3 (ordS a b) (ordS b a) (ordS b c) (ordS a c) := by
  rcases ordS_cases a b with ⟨h1, n1, e1, e1'⟩ | ⟨h1, e1, e1'⟩ | ⟨h1, n1, e1, e1'⟩
  · rcases ordS_cases b c with ⟨h2, n2, e2, _⟩ | ⟨h2, e2, _⟩ | ⟨h2, n2, e2, _⟩
    · have h3 := bl_trans _ _ _ h1 h2
      have e3 : ordS a c = -1 := by unfold ordS; rw [h3]; rfl
      rw [e1, e1', e2, e3]; constructor <;> omega
    · have e3 : ordS a c = -1 := by unfold ordS; rw [← h2, h1]; rfl
      rw [e1, e1', e2, e3]; constructor <;> omega
    · rw [e1, e1', e2]; constructor <;> omega
  · have e3 : ordS a c = ordS b c := by unfold ordS; rw [h1]
    rw [e1, e1', e3]; constructor <;> omega
  · rcases ordS_cases b c with ⟨h2, n2, e2, _⟩ | ⟨h2, e2, _⟩ | ⟨h2, n2, e2, _⟩
    · rw [e1, e1', e2]; constructor <;> omega
    · have e3 : ordS a c = 1 := by unfold ordS; rw [← h2]; exact e1
      rw [e1, e1', e2, e3]; constructor <;> omega
    · rw [e1, e1', e2]; constructor <;> omega

/-- The first of two numbers that is not nought. -/
def lex (x y : Int) : Int := if x = 0 then y else x
theorem lex_cases (x y : Int) : (x = 0 ∧ lex x y = y) ∨ (x ≠ 0 ∧ lex x y = x) := by
  unfold lex
  by_cases h : x = 0
  · simp [h]
  · simp [h]
theorem or3_lex (x y z : Int) : or3 x y z = lex x (lex y z) := by
  unfold or3 lex
  by_cases hx : x = 0
  · by_cases hy : y = 0
    · simp [hx, hy]
    · simp [hx, hy]
  · simp [hx]
theorem lex_ord {x1 x1' y1 z1 x2 x2' y2 z2 : Int} (h1 : Ord3 x1 x1' y1 z1) (h2 : Ord3 x2 x2' y2 z2) : Ord3 (lex x1 x2) (lex x1' x2') (lex y1 y2) (lex z1 z2) := by
  obtain ⟨a1, b1, c1, d1, e1, f1⟩ := h1
  obtain ⟨a2, b2, c2, d2, e2, f2⟩ := h2
  subst a1 a2
  rcases lex_cases x1 x2 with ⟨p, p'⟩ | ⟨p, p'⟩ <;> rcases lex_cases (-x1) (-x2) with ⟨q, q'⟩ | ⟨q, q'⟩ <;> rcases lex_cases y1 y2 with ⟨r, r'⟩ | ⟨r, r'⟩ <;> rcases lex_cases z1 z2 with ⟨s, s'⟩ | ⟨s, s'⟩ <;>
    rw [p', q', r', s'] <;> first | (exfalso; omega) | (constructor <;> omega)
theorem or3_ord {x1 x1' y1 z1 x2 x2' y2 z2 x3 x3' y3 z3 : Int} (h1 : Ord3 x1 x1' y1 z1) (h2 : Ord3 x2 x2' y2 z2) (h3 : Ord3 x3 x3' y3 z3) : Ord3 (or3 x1 x2 x3) (or3 x1' x2' x3') (or3 y1 y2 y3) (or3 z1 z2 z3) := by
  rw [or3_lex, or3_lex, or3_lex, or3_lex]
  exact lex_ord h1 (lex_ord h2 h3)
theorem cmp_ord (a b c : Val) : Ord3 (a.cmp b) (b.cmp a) (b.cmp c) (a.cmp c) := or3_ord (ordI_ord _ _ _) (ordI_ord _ _ _) (ordS_ord _ _ _)

theorem cmp_self (a : Val) : a.cmp a = 0 := by
  have := (cmp_ord a a a).anti
  omega
theorem ordI_three (a b : Int) : ordI a b = -1 ∨ ordI a b = 0 ∨ ordI a b = 1 := by
  unfold ordI
  split
  · exact .inl rfl
  · split
    · exact .inr (.inr rfl)
    · exact .inr (.inl rfl)
theorem ordS_three (a b : ByteArray) : ordS a b = -1 ∨ ordS a b = 0 ∨ ordS a b = 1 := by
  unfold ordS
  split
  · exact .inl rfl
  · split
    · exact .inr (.inl rfl)
    · exact .inr (.inr rfl)
theorem or3_three' (x y z : Int) (hx : x = -1 ∨ x = 0 ∨ x = 1) (hy : y = -1 ∨ y = 0 ∨ y = 1) (hz : z = -1 ∨ z = 0 ∨ z = 1) : or3 x y z = -1 ∨ or3 x y z = 0 ∨ or3 x y z = 1 := by
  unfold or3
  split
  · exact hx
  · split
    · exact hy
    · exact hz
theorem cmp_three (x y : Val) : x.cmp y = -1 ∨ x.cmp y = 0 ∨ x.cmp y = 1 := or3_three' _ _ _ (ordI_three _ _) (ordI_three _ _) (ordS_three _ _)

theorem or3_zero {x y z : Int} (h : or3 x y z = 0) : x = 0 ∧ y = 0 ∧ z = 0 := by
  unfold or3 at h
  by_cases hx : x = 0
  · by_cases hy : y = 0
    · simp [hx, hy] at h
      exact ⟨hx, hy, h⟩
    · simp [hx, hy] at h
  · simp [hx] at h
theorem ordI_zero {a b : Int} (h : ordI a b = 0) : a = b := by
  unfold ordI at h
  split at h
  · omega
  · split at h <;> omega
theorem ordS_zero {a b : ByteArray} (h : ordS a b = 0) : a.toList = b.toList := by
  rcases ordS_cases a b with ⟨_, _, e, _⟩ | ⟨e, _⟩ | ⟨_, _, e, _⟩
  · omega
  · exact e
  · omega
theorem cmp_zero {x y : Val} (h : x.cmp y = 0) : x = y := by
  obtain ⟨h1, h2, h3⟩ := or3_zero h
  obtain ⟨k, n, s⟩ := x
  obtain ⟨l, m, t⟩ := y
  have e1 : k = l := ordI_zero h1
  have e2 : n = m := ordI_zero h2
  have e3 : s.toList = t.toList := ordS_zero h3
  obtain ⟨s⟩ := s
  obtain ⟨t⟩ := t
  rw [ByteArray.toList_eq, ByteArray.toList_eq] at e3
  have e4 : s = t := Array.toList_inj.1 e3
  rw [e1, e2, e4]

end Go.Proofs.Ytflbeccfdbjbhaa
