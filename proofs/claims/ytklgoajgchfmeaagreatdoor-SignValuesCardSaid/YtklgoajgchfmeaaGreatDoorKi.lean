/- A part of the proof. -/
import Derived.Test.YtklgoajgchfmeaaGreatDoorKg
import Derived.Test.YtklgoajgchfmeaaGreatDoorKb
import Derived.Deep.Quiet
import Derived.Deep.QuietTactic
import Derived.BigQuiet
import Derived.Laws.BytesString
import Derived.ProofKit
import Derived.Lib.SmallJoins
import Derived.Deep.Slices
import Derived.Deep.Strs
import Derived.SizedLaws
import Derived.Test.YtklgoajgchfmeaaGreatDoorKd
set_option linter.unusedVariables false
set_option linter.unusedSimpArgs false
namespace Go.Proofs.YtklgoajgchfmeaaGreatDoor
open Go.RowKit
theorem bl_trans : ∀ a b c : List UInt8, Op.bytesLess a b = true → Op.bytesLess b c = true → Op.bytesLess a c = true
  | _, [], _, h, _ => by simp [Op.bytesLess] at h
  | _, _ :: _, [], _, h => by simp [Op.bytesLess] at h
  | [], _ :: _, _ :: _, _, _ => rfl
  | a :: x, b :: y, c :: z, h, h' => by
    simp only [Op.bytesLess, Bool.or_eq_true, decide_eq_true_eq, Bool.and_eq_true, beq_iff_eq] at h h' ⊢
    rcases h with h | ⟨rfl, h⟩
    · rcases h' with h' | ⟨rfl, _⟩
      · exact .inl (UInt8.lt_trans h h')
      · exact .inl h
    · rcases h' with h' | ⟨rfl, h'⟩
      · exact .inl h'
      · exact .inr ⟨rfl, bl_trans x y z h h'⟩
theorem bl_total : ∀ a b : List UInt8, a ≠ b → Op.bytesLess a b = false → Op.bytesLess b a = true
  | [], [], h, _ => absurd rfl h
  | [], _ :: _, _, h => by simp [Op.bytesLess] at h
  | _ :: _, [], _, _ => rfl
  | a :: x, b :: y, h, h' => by
    simp only [Op.bytesLess, Bool.or_eq_false_iff, decide_eq_false_iff_not, Bool.and_eq_false_iff, beq_eq_false_iff_ne] at h'
    simp only [Op.bytesLess, Bool.or_eq_true, decide_eq_true_eq, Bool.and_eq_true, beq_iff_eq]
    by_cases e : a = b
    · subst e
      refine .inr ⟨rfl, bl_total x y (fun e' => h (by rw [e'])) ?_⟩
      rcases h'.2 with h2 | h2
      · exact absurd rfl h2
      · exact h2
    · left
      have h1 := h'.1
      rw [UInt8.lt_iff_toNat_lt] at h1 ⊢
      have : a.toNat ≠ b.toNat := fun e' => e (UInt8.toNat_inj.1 e')
      omega
theorem bl_anti (a b : List UInt8) (h : Op.bytesLess a b = true) : Op.bytesLess b a = false := by
  cases h' : Op.bytesLess b a
  · rfl
  · have := bl_trans a b a h h'
    rw [bytesLess_self] at this
    cases this
structure Ord3 (x x' y z : Int) : Prop where
  anti : x' = -x
  le : x ≤ 0 → y ≤ 0 → z ≤ 0
  lt1 : x < 0 → y ≤ 0 → z < 0
  lt2 : x ≤ 0 → y < 0 → z < 0
  eq1 : x = 0 → z = y
  eq2 : y = 0 → z = x
theorem ordI_ord (a b c : Int) : Ord3 (ordI a b) (ordI b a) (ordI b c) (ordI a c) := by
  unfold ordI
  constructor <;> (split <;> split <;> (try split) <;> (try split) <;> (try split) <;> (try split) <;> omega)
theorem ordS_cases (a b : ByteArray) : (Op.bytesLess a.toList b.toList = true ∧ a.toList ≠ b.toList ∧ ordS a b = -1 ∧ ordS b a = 1) ∨ (a.toList = b.toList ∧ ordS a b = 0 ∧ ordS b a = 0) ∨ (Op.bytesLess b.toList a.toList = true ∧ a.toList ≠ b.toList ∧ ordS a b = 1 ∧ ordS b a = -1) := by
  by_cases h : a.toList = b.toList
  · right; left
    refine ⟨h, ?_, ?_⟩
    · unfold ordS; rw [h, bytesLess_self]; simp
    · unfold ordS; rw [h, bytesLess_self]; simp
  · have h' : ¬ b.toList = a.toList := fun e => h e.symm
    cases h1 : Op.bytesLess a.toList b.toList
    · right; right
      have h2 := bl_total _ _ h h1
      refine ⟨h2, h, ?_, ?_⟩
      · unfold ordS; rw [h1, if_neg h]; rfl
      · unfold ordS; rw [h2]; rfl
    · left
      have h2 := bl_anti _ _ h1
      refine ⟨rfl, h, ?_, ?_⟩
      · unfold ordS; rw [h1]; rfl
      · unfold ordS; rw [h2, if_neg h']; rfl
theorem ordS_ord (a b c : ByteArray) : Ord3 (ordS a b) (ordS b a) (ordS b c) (ordS a c) := by
  rcases ordS_cases a b with ⟨h1, n1, e1, e1'⟩ | ⟨h1, e1, e1'⟩ | ⟨h1, n1, e1, e1'⟩
  · rcases ordS_cases b c with ⟨h2, n2, e2, _⟩ | ⟨h2, e2, _⟩ | ⟨h2, n2, e2, _⟩
    · have h3 := bl_trans _ _ _ h1 h2
      have e3 : ordS a c = -1 := by unfold ordS; rw [h3]; rfl
      rw [e1, e1', e2, e3]; constructor <;> omega
    · have e3 : ordS a c = -1 := by unfold ordS; rw [← h2, h1]; rfl
      rw [e1, e1', e2, e3]; constructor <;> omega
    · rw [e1, e1', e2]; constructor <;> omega
  · have e3 : ordS a c = ordS b c := by unfold ordS; rw [h1]
    rw [e1, e1', e3]; constructor <;> omega
  · rcases ordS_cases b c with ⟨h2, n2, e2, _⟩ | ⟨h2, e2, _⟩ | ⟨h2, n2, e2, _⟩
    · rw [e1, e1', e2]; constructor <;> omega
    · have e3 : ordS a c = 1 := by unfold ordS; rw [← h2]; exact e1
      rw [e1, e1', e2, e3]; constructor <;> omega
    · rw [e1, e1', e2]; constructor <;> omega
def lex (x y : Int) : Int := if x = 0 then y else x
theorem lex_cases (x y : Int) : (x = 0 ∧ lex x y = y) ∨ (x ≠ 0 ∧ lex x y = x) := by
  unfold lex
  by_cases h : x = 0
  · simp [h]
  · simp [h]
theorem or3_lex (x y z : Int) : or3 x y z = lex x (lex y z) := by
  unfold or3 lex
  by_cases hx : x = 0
  · by_cases hy : y = 0
    · simp [hx, hy]
    · simp [hx, hy]
  · simp [hx]
theorem lex_ord {x1 x1' y1 z1 x2 x2' y2 z2 : Int} (h1 : Ord3 x1 x1' y1 z1) (h2 : Ord3 x2 x2' y2 z2) : Ord3 (lex x1 x2) (lex x1' x2') (lex y1 y2) (lex z1 z2) := by
  obtain ⟨a1, b1, c1, d1, e1, f1⟩ := h1
  obtain ⟨a2, b2, c2, d2, e2, f2⟩ := h2
  subst a1 a2
  rcases lex_cases x1 x2 with ⟨p, p'⟩ | ⟨p, p'⟩ <;> rcases lex_cases (-x1) (-x2) with ⟨q, q'⟩ | ⟨q, q'⟩ <;> rcases lex_cases y1 y2 with ⟨r, r'⟩ | ⟨r, r'⟩ <;> rcases lex_cases z1 z2 with ⟨s, s'⟩ | ⟨s, s'⟩ <;>
    rw [p', q', r', s'] <;> first | (exfalso; omega) | (constructor <;> omega)
theorem or3_ord {x1 x1' y1 z1 x2 x2' y2 z2 x3 x3' y3 z3 : Int} (h1 : Ord3 x1 x1' y1 z1) (h2 : Ord3 x2 x2' y2 z2) (h3 : Ord3 x3 x3' y3 z3) : Ord3 (or3 x1 x2 x3) (or3 x1' x2' x3') (or3 y1 y2 y3) (or3 z1 z2 z3) := by
  rw [or3_lex, or3_lex, or3_lex, or3_lex]
  exact lex_ord h1 (lex_ord h2 h3)
theorem cmp_ord (a b c : Val) : Ord3 (a.cmp b) (b.cmp a) (b.cmp c) (a.cmp c) := or3_ord (ordI_ord _ _ _) (ordI_ord _ _ _) (ordS_ord _ _ _)
open Go.Lib
def commutes (op : Int) : Bool := op == 4 || op == 6 || op == 9 || op == 10 || op == 15 || op == 16
def ahead2 : List Ex → Bool
  | [a, b] => Op.bytesLess b.print a.print
  | _ => false
def fixE (op : Int) (v : Val) (rel col n : Int) (s : ByteArray) (l : List Ex) : Ex :=
  if op = 13 then .mk 11 v rel col n s l.reverse else if op = 14 then .mk 12 v rel col n s l.reverse
  else if commutes op && ahead2 l then .mk op v rel col n s l.reverse else .mk op v rel col n s l
mutual
def Ex.norm : Ex → Ex
  | .mk op v rel col n s l => fixE op v rel col n s (normL l)
def normL : List Ex → List Ex
  | [] => []
  | x :: r => x.norm :: normL r
end
theorem normL_map : ∀ l : List Ex, normL l = l.map Ex.norm
  | [] => by rw [normL]; rfl
  | x :: r => by rw [normL, normL_map r]; rfl
theorem okL_rev : ∀ l : List Ex, okL l.reverse = okL l
  | [] => rfl
  | x :: r => by rw [List.reverse_cons, okL_append, okL_rev r, okL, okL, okL, Bool.and_true, Bool.and_comm]
theorem deepL_rev : ∀ l : List Ex, deepL l.reverse = deepL l
  | [] => rfl
  | x :: r => by rw [List.reverse_cons, deepL_append, deepL_rev r, deepL, deepL, deepL]; omega
theorem countL_rev : ∀ l : List Ex, countL l.reverse = countL l
  | [] => rfl
  | x :: r => by rw [List.reverse_cons, countL_append, countL_rev r, countL, countL, countL]; omega
theorem tabsL_rev : ∀ l : List Ex, tabsL l.reverse = tabsL l
  | [] => rfl
  | x :: r => by rw [List.reverse_cons, tabsL_append, tabsL_rev r, tabsL, tabsL, tabsL, Nat.or_zero, Nat.or_comm]
theorem safeL_rev : ∀ l : List Ex, safeL l.reverse = safeL l
  | [] => rfl
  | x :: r => by rw [List.reverse_cons, safeL_append, safeL_rev r, safeL, safeL, safeL, Bool.and_true, Bool.and_comm]
theorem head_lt {v : Val} {rel col n : Int} {s : ByteArray} {len : Nat} : headOk 11 v rel col n s len = headOk 13 v rel col n s len := by simp [headOk, wantsOf]
theorem head_le {v : Val} {rel col n : Int} {s : ByteArray} {len : Nat} : headOk 12 v rel col n s len = headOk 14 v rel col n s len := by simp [headOk, wantsOf]
theorem fix_same (op : Int) (v : Val) (rel col n : Int) (s : ByteArray) (l : List Ex) :
    (fixE op v rel col n s l).okAll = (Ex.mk op v rel col n s l).okAll ∧ (fixE op v rel col n s l).deep = (Ex.mk op v rel col n s l).deep ∧ (fixE op v rel col n s l).count = (Ex.mk op v rel col n s l).count ∧ (fixE op v rel col n s l).tabs = (Ex.mk op v rel col n s l).tabs ∧ (fixE op v rel col n s l).safe = (Ex.mk op v rel col n s l).safe := by
  unfold fixE
  split
  · subst op
    refine ⟨?_, ?_, ?_, ?_, ?_⟩
    · rw [Ex.okAll, Ex.okAll, List.length_reverse, okL_rev, head_lt]
    · rw [Ex.deep, Ex.deep, deepL_rev]
    · rw [Ex.count, Ex.count, countL_rev]
    · rw [Ex.tabs, Ex.tabs, tabsL_rev]; rfl
    · rw [Ex.safe, Ex.safe, safeL_rev]; rfl
  · split
    · subst op
      refine ⟨?_, ?_, ?_, ?_, ?_⟩
      · rw [Ex.okAll, Ex.okAll, List.length_reverse, okL_rev, head_le]
      · rw [Ex.deep, Ex.deep, deepL_rev]
      · rw [Ex.count, Ex.count, countL_rev]
      · rw [Ex.tabs, Ex.tabs, tabsL_rev]; rfl
      · rw [Ex.safe, Ex.safe, safeL_rev]; rfl
    · split
      · refine ⟨?_, ?_, ?_, ?_, ?_⟩
        · rw [Ex.okAll, Ex.okAll, List.length_reverse, okL_rev]
        · rw [Ex.deep, Ex.deep, deepL_rev]
        · rw [Ex.count, Ex.count, countL_rev]
        · rw [Ex.tabs, Ex.tabs, tabsL_rev]
        · rw [Ex.safe, Ex.safe, safeL_rev]
      · exact ⟨rfl, rfl, rfl, rfl, rfl⟩
mutual
theorem norm_same : ∀ x : Ex, x.norm.okAll = x.okAll ∧ x.norm.deep = x.deep ∧ x.norm.count = x.count ∧ x.norm.tabs = x.tabs ∧ x.norm.safe = x.safe
  | .mk op v rel col n s l => by
    obtain ⟨a0, a1, a2, a3, a4, a5⟩ := normL_same l
    obtain ⟨h1, h2, h3, h4, h5⟩ := fix_same op v rel col n s (normL l)
    rw [Ex.norm]
    refine ⟨h1.trans ?_, h2.trans ?_, h3.trans ?_, h4.trans ?_, h5.trans ?_⟩
    · rw [Ex.okAll, Ex.okAll, a0, a1]
    · rw [Ex.deep, Ex.deep, a2]
    · rw [Ex.count, Ex.count, a3]
    · rw [Ex.tabs, Ex.tabs, a4]
    · rw [Ex.safe, Ex.safe, a5]
theorem normL_same : ∀ l : List Ex, (normL l).length = l.length ∧ okL (normL l) = okL l ∧ deepL (normL l) = deepL l ∧ countL (normL l) = countL l ∧ tabsL (normL l) = tabsL l ∧ safeL (normL l) = safeL l
  | [] => by rw [normL]; exact ⟨rfl, rfl, rfl, rfl, rfl, rfl⟩
  | x :: r => by
    obtain ⟨h1, h2, h3, h4, h5⟩ := norm_same x
    obtain ⟨a0, a1, a2, a3, a4, a5⟩ := normL_same r
    rw [normL]
    refine ⟨by simp [a0], ?_, ?_, ?_, ?_, ?_⟩
    · rw [okL, okL, h1, a1]
    · rw [deepL, deepL, h2, a2]
    · rw [countL, countL, h3, a3]
    · rw [tabsL, tabsL, h4, a4]
    · rw [safeL, safeL, h5, a5]
end
theorem right_iff8 {x : Ex} : rightE x = true ↔ x.okAll = true ∧ x.deep ≤ 20 ∧ x.count ≤ 200 := by
  unfold rightE sizesE
  split
  · rename_i h; exact ⟨fun _ => h, fun _ => rfl⟩
  · rename_i h; exact ⟨fun e => (by cases e), fun e => absurd e h⟩
theorem right_of8 {x y : Ex} (h1 : x.okAll = y.okAll) (h2 : x.deep = y.deep) (h3 : x.count = y.count) : rightE x = rightE y := by
  rw [Bool.eq_iff_iff, right_iff8, right_iff8, h1, h2, h3]
theorem norm_right (x : Ex) : rightE x.norm = rightE x := right_of8 (norm_same x).1 (norm_same x).2.1 (norm_same x).2.2.1
mutual
theorem same_eq : ∀ x y : Ex, x.okAll = true → y.okAll = true → sameE x y = true → x = y
  | .mk op v rel col n s l, .mk op' v' rel' col' n' s' l', hx, hy, h => by
    rw [Ex.okAll, Bool.and_eq_true] at hx hy
    have e1 := (head_shape hx.1).1
    have e2 := (head_shape hy.1).1
    rw [sameE] at h
    simp only [Bool.and_eq_true, beq_iff_eq] at h
    obtain ⟨⟨⟨⟨⟨rfl, ⟨hk, hn⟩, hs⟩, rfl⟩, rfl⟩, rfl⟩, hl⟩ := h
    obtain ⟨k, n0, s0⟩ := v
    obtain ⟨k', n0', s0'⟩ := v'
    simp only at hk hn hs
    have hs' : s0 = s0' := ba_eq.2 hs
    have hs2 : s = s' := ba_eq.2 (e1.trans e2.symm)
    subst hk hn hs' hs2
    rw [sameL_eq l l' hx.2 hy.2 hl]
theorem sameL_eq : ∀ l m : List Ex, okL l = true → okL m = true → sameL l m = true → l = m
  | [], [], _, _, _ => rfl
  | x :: l, y :: m, hx, hy, h => by
    rw [sameL, Bool.and_eq_true] at h
    rw [okL, Bool.and_eq_true] at hx hy
    rw [same_eq x y hx.1 hy.1 h.1, sameL_eq l m hx.2 hy.2 h.2]
  | [], _ :: _, _, _, h => by simp [sameL] at h
  | _ :: _, [], _, _, h => by simp [sameL] at h
end
theorem print_inj {x y : Ex} (hx : x.okAll = true) (hy : y.okAll = true) (h : x.print = y.print) : x = y := same_eq x y hx hy ((print_iff hx hy).1 h)
def insE (x : Ex) : List Ex → List Ex
  | [] => [x]
  | y :: r => if Op.bytesLess y.print x.print then y :: insE x r else if y.print = x.print then y :: r else x :: y :: r
def sortE (L : List Ex) : List Ex := L.foldl (fun K x => insE x K) []
def ltE (a b : Ex) : Prop := Op.bytesLess a.print b.print = true
theorem ins_mem (x : Ex) (hx : x.okAll = true) : ∀ (K : List Ex), (∀ y ∈ K, y.okAll = true) → ∀ z, z ∈ insE x K ↔ z = x ∨ z ∈ K
  | [], _, z => by simp [insE]
  | y :: r, hK, z => by
    rw [insE]
    split
    · rw [List.mem_cons, ins_mem x hx r (fun y hy => hK y (by simp [hy])) z, List.mem_cons]
      constructor
      · rintro (h | h | h)
        · exact .inr (.inl h)
        · exact .inl h
        · exact .inr (.inr h)
      · rintro (h | h | h)
        · exact .inr (.inl h)
        · exact .inl h
        · exact .inr (.inr h)
    · split
      · rename_i h
        have e := print_inj (hK y (by simp)) hx h
        subst e
        simp
      · simp
theorem ins_sorted (x : Ex) : ∀ (K : List Ex), K.Pairwise ltE → (insE x K).Pairwise ltE ∧ ∀ z ∈ insE x K, z = x ∨ z ∈ K
  | [], _ => ⟨by rw [insE]; exact List.pairwise_singleton _ _, fun z hz => by rw [insE] at hz; simpa using hz⟩
  | y :: r, h => by
    rw [List.pairwise_cons] at h
    obtain ⟨h1, h2⟩ := ins_sorted x r h.2
    rw [insE]
    split
    · rename_i hl
      refine ⟨List.pairwise_cons.2 ⟨fun z hz => ?_, h1⟩, fun z hz => ?_⟩
      · rcases h2 z hz with rfl | h'
        · exact hl
        · exact h.1 z h'
      · rcases List.mem_cons.1 hz with e | hz
        · exact .inr (by simp [e])
        · rcases h2 z hz with e | h
          · exact .inl e
          · exact .inr (by simp [h])
    · rename_i hl
      split
      · exact ⟨List.pairwise_cons.2 h, fun z hz => .inr hz⟩
      · rename_i hne
        have hxy : ltE x y := bl_total y.print x.print hne (by simpa using hl)
        refine ⟨List.pairwise_cons.2 ⟨fun z hz => ?_, List.pairwise_cons.2 h⟩, fun z hz => by simpa using hz⟩
        rcases List.mem_cons.1 hz with rfl | hz
        · exact hxy
        · exact bl_trans _ _ _ hxy (h.1 z hz)
theorem foldl_ins : ∀ (L K : List Ex), (∀ y ∈ L, y.okAll = true) → (∀ y ∈ K, y.okAll = true) → K.Pairwise ltE → (L.foldl (fun K x => insE x K) K).Pairwise ltE ∧ ∀ z, z ∈ L.foldl (fun K x => insE x K) K ↔ z ∈ L ∨ z ∈ K
  | [], K, _, _, h => ⟨h, fun z => by simp⟩
  | x :: L, K, hL, hK, h => by
    have hx := hL x (by simp)
    have hm := ins_mem x hx K hK
    obtain ⟨h1, h2⟩ := foldl_ins L (insE x K) (fun y hy => hL y (by simp [hy])) (fun y hy => by
      rcases (hm y).1 hy with rfl | h
      · exact hx
      · exact hK y h) (ins_sorted x K h).1
    refine ⟨h1, fun z => ?_⟩
    rw [List.foldl_cons, h2, hm, List.mem_cons]
    constructor
    · rintro (h | h | h)
      · exact .inl (.inr h)
      · exact .inl (.inl h)
      · exact .inr h
    · rintro ((h | h) | h)
      · exact .inr (.inl h)
      · exact .inl h
      · exact .inr (.inr h)
theorem sortE_is {L : List Ex} (h : ∀ y ∈ L, y.okAll = true) : (sortE L).Pairwise ltE ∧ ∀ z, z ∈ sortE L ↔ z ∈ L := by
  obtain ⟨h1, h2⟩ := foldl_ins L [] h (by simp) List.Pairwise.nil
  exact ⟨h1, fun z => by rw [sortE, h2]; simp⟩
theorem ins_len (x : Ex) : ∀ K : List Ex, (insE x K).length ≤ K.length + 1
  | [] => by simp [insE]
  | y :: r => by
    have := ins_len x r
    rw [insE]
    split
    · simp; omega
    · split <;> simp
theorem foldl_len : ∀ (L K : List Ex), (L.foldl (fun K x => insE x K) K).length ≤ K.length + L.length
  | [], K => by simp
  | x :: L, K => by
    have h1 := foldl_len L (insE x K)
    have h2 := ins_len x K
    rw [List.foldl_cons, List.length_cons]
    omega
theorem sortE_len (L : List Ex) : (sortE L).length ≤ L.length := by have := foldl_len L []; simp [sortE] at this ⊢; exact this
open Go.RowKit
structure After (G : World) where
  W : World
  below : Below G.heap.size G W
theorem After.some (G : World) : Nonempty (After G) := ⟨⟨G, Below.refl _ _⟩⟩
theorem After.cell {G : World} (x : After G) (b o : Nat) (h : b < G.heap.size) : x.W.cell? ⟨b, o, none⟩ = G.cell? ⟨b, o, none⟩ := x.below.cell (p := ⟨b, o, none⟩) h
theorem wp_region_after {P : Program} {id : Nat} {Q : Exit → Act → World → Prop} {a : Act} {w : World} {l : List Oper} (hm : P.follows .mixedOrders = true) (hB : Region.lexB .any l.toArray = true)
    (h : wpQuiet P l.toArray (fun w' => ∃ x : After w, w' = x.W) (fun a' => ∀ w', (∃ x : After w, w' = x.W) → Q .normal a' w') l a) : (Code.region id l.toArray true).wp P Q a w :=
  wp_region_quiet (C := fun w' => ∃ x : After w, w' = x.W) hm hB ⟨⟨w.drew, (Below.refl _ _).drew⟩, rfl⟩ (by simpa using h)
theorem calls_after {P : Program} {f : FuncId} {args : Array Value} {G : World} {x : After G} {v : Value} (h : Calls P f args x.W fun e w' => e = .returned v ∧ Below x.W.heap.size x.W w') :
    Calls P f args x.W fun e w'' => e = .returned v ∧ ∃ y : After G, w'' = y.W :=
  h.mono fun _ w' ⟨he, hb⟩ => ⟨he, ⟨w', x.below.trans (hb.mono x.below.size)⟩, rfl⟩
abbrev bsB (l : Bs) : ByteArray := ⟨l.toArray⟩
theorem bsB_add (a b : Bs) : bsB a ++ bsB b = bsB (a ++ b) := by
  apply ByteArray.ext
  rw [ByteArray.data_append]
  apply Array.ext'
  simp
open Go.RowKit
theorem Tryz.infoU8 : (Tryz.prog.info? 5).map (fun i => (i.zero, i.size, i.bytes)) = some (some (.int .u8 0), 1, 1) := by kernel_rfl
def OwnB (w : World) (base : Nat) (v : Value) (l : List Int) : Prop := w.ownsRow base 5 1 v l.length (l.map (Value.int .u8))
theorem OwnB.nil (w : World) (base : Nat) : OwnB w base (.slice none 0 0) [] := World.ownsRow_nil _ _ _ _
theorem OwnB.later {w w' : World} {base : Nat} {v : Value} {l : List Int} (h : OwnB w base v l) (hb : Below w.heap.size w w') : OwnB w' base v l := by
  obtain ⟨h1, h2⟩ := h
  refine ⟨h1, ?_⟩
  rcases h2 with h2 | ⟨g, cap, cur, hv, hg, hh, r⟩
  · exact .inl h2
  · have hlt : g < w.heap.size := by
      rcases Nat.lt_or_ge g w.heap.size with h | h
      · exact h
      · rw [Array.getElem?_eq_none h] at hh; cases hh
    exact .inr ⟨g, cap, cur, hv, hg, by rw [hb.block g hlt]; exact hh, r⟩
theorem OwnB.slice {w : World} {base : Nat} {v : Value} {l : List Int} (h : OwnB w base v l) : ∃ p n c, v = .slice p n c := by
  rcases h.2 with ⟨rfl, _⟩ | ⟨g, cap, cur, rfl, _⟩
  · exact ⟨_, _, _, rfl⟩
  · exact ⟨_, _, _, rfl⟩
theorem wp_append_byte2 {w : World} {ops : Array Oper} {rest : List Oper} {o : Oper} {a : Act} {Q : Exit → Act → World → Prop} (hgd : o.guard = none) (s x : Operand)
    (ho : o.op = .call { callee := .builtin .append, args := #[s, x], argTypes := #[61, 61] }) (base : Nat) (v : Value) (l : List Int) (hs : a.eval s = v) (hown : OwnB w base v l)
    (y : Int) (g c : Nat) (hx : a.eval x = .slice (some ⟨g, 0, none⟩) 1 c) (hc : w.cell? ⟨g, 0, none⟩ = some (.int .u8 y)) (hlen : l.length < 1099511627776) (hbase : base ≤ w.heap.size)
    (h : ∀ v' w', OwnB w' base v' (l ++ [y]) → w.grownBy w' v.ownBlock → Below base w w' → wpList Tryz.prog ops Q rest (a.put o.dst v') w') : wpList Tryz.prog ops Q (o :: rest) a w := by
  obtain ⟨i0, hi, hz0, hz1, hz2⟩ := info_parts Tryz.infoU8
  refine wpList_append_own w hgd s x 61 ho base 5 i0 (.int .u8 0) 1 1 Tryz.underlying61 hi hz0 hz1 hz2 rfl (by decide) v l.length _ hs hown ⟨g, 0, none⟩ 1 c [.int .u8 y] hx rfl ?_ ?_ ?_ ?_ hbase ?_
  · intro j u hj
    match j, hj with
    | 0, hj => simp at hj; subst hj; simpa [Addr.add] using hc
  · intro u hu
    simp at hu
    subst hu
    rfl
  · unfold maxLen; omega
  · omega
  · intro v' w' h1 h2 _
    refine h v' w' ?_ h2 ((Below.refl _ _).grown h2 hbase fun k hk => (hown.lt _ hk).1)
    unfold OwnB
    rw [List.length_append, List.map_append]
    exact h1
open Go.RowKit
set_option maxRecDepth 100000
abbrev toJ (l : Bs) : List Int := l.map fun b => (b.toNat : Int)
theorem toJ_app (a b : Bs) : toJ (a ++ b) = toJ a ++ toJ b := List.map_append
theorem toJ_push (l : Bs) : ∀ acc : ByteArray, (toJ l).foldl (fun (r : ByteArray) (n : Int) => r.push (UInt8.ofNat n.toNat)) acc = ⟨acc.data ++ l.toArray⟩ := by
  induction l with
  | nil => intro acc; simp [toJ]
  | cons b l ih =>
    intro acc
    have := ih (acc.push b)
    unfold toJ at this ⊢
    simp only [List.map_cons, List.foldl_cons, Int.toNat_natCast, UInt8.ofNat_toNat]
    rw [this]
    simp [ByteArray.push]
theorem conv_own {w : World} {base : Nat} {v : Value} {l : Bs} (h : OwnB w base v (toJ l)) : (convert 61 9 v).run Tryz.prog w = .ok (.string (bsB l)) w := by
  have h' := h
  obtain ⟨h1, h2⟩ := h'
  rcases h2 with ⟨rfl, h0⟩ | ⟨g, cap, cur, rfl, hb, hg, hn, hm, hc, ht⟩
  · have : l = [] := by rw [List.length_map] at h0; exact List.eq_nil_of_length_eq_zero h0
    subst this
    rw [run_convert_bytes_string w 61 9 5 none 0 0 Tryz.underlying61 Tryz.underlying5 Tryz.underlying9]
    rfl
  · rw [run_convert_bytes_string w 61 9 5 _ _ _ Tryz.underlying61 Tryz.underlying5 Tryz.underlying9]
    have hl : (loadCells ⟨g, 0, none⟩ (toJ l).length).run Tryz.prog w = .ok ((toJ l).map (Value.int .u8)).toArray w := by
      have := run_loadCells_list (P := Tryz.prog) w ⟨g, 0, none⟩ ((toJ l).map (Value.int .u8)) (fun j u hu => World.ownsRow.cells h (g := g) rfl j u hu)
      rwa [List.length_map] at this
    rw [run_bytesToString w _ _ cap (toJ l) hl, toJ_push]
    simp
open Go.ChangeShapes Go.WideShapes Go.ChangeAt Go.RowKit Go.Joins
set_option maxRecDepth 100000
theorem Tryz.own : ownKnob Tryz.prog.godebug = none := by kernel_rfl
theorem Tryz.laidOut : laidOutB Tryz.prog = true := by kernel_rfl
section
variable {H : Type} {enc : TypeId × Value → H}
theorem all_stay {W W' : World} (hb : Below W.heap.size W W') : ∀ {ts : List TypeId} {vs : List Value} {ds : List (DataW H)} {ps : List MemPlace},
    (∀ t ∈ ts, Tryz.prog.readableRec t = true ∧ t < Tryz.prog.types.size) → DataW.TrodAll enc Tryz.prog W 0 (fun _ => true) true ts vs ds ps → (∀ x ∈ ps, x.block < W.heap.size) →
    DataW.TrodAll enc Tryz.prog W' 0 (fun b => decide (b < W.heap.size)) true ts vs ds ps
  | [], [], [], _, _, h, _ => h
  | t :: ts, v :: vs, d :: ds, ps, hr, h, hlt => by
    obtain ⟨p, q, h1, h2, rfl⟩ := h
    have hp : ∀ x ∈ p, x.block < W.heap.size := fun x hx => hlt x (List.mem_append_left _ hx)
    have hq : ∀ x ∈ q, x.block < W.heap.size := fun x hx => hlt x (List.mem_append_right _ hx)
    exact ⟨p, q, Below.trod Tryz.laidOut (hr t List.mem_cons_self).1 (hr t List.mem_cons_self).2 h1 hb hp, all_stay hb (fun t' ht' => hr t' (List.mem_cons_of_mem _ ht')) h2 hq, rfl⟩
  | [], [], _ :: _, _, _, h, _ => h.elim
  | [], _ :: _, _, _, _, h, _ => h.elim
  | _ :: _, [], _, _, _, h, _ => h.elim
  | _ :: _, _ :: _, [], _, _, h, _ => h.elim
theorem post_law {f : Func} {s : ChangeSpec} {W W' : World} {args : Array Value} {ds gs : List (DataW H)} {before : List MemPlace} (hv : s.vars = [])
    (hW : DataW.Whole enc Tryz.prog f.params.toList s.vars false W args.toList ds gs before) (hfn : s.fn H ds = { results := [.lit (.bool true)], args := ds }) (hres : f.resultTypes = #[4])
    (hread : ∀ t ∈ f.params.toList, Tryz.prog.readableRec t = true ∧ t < Tryz.prog.types.size) (hb : Below W.heap.size W W') : s.post enc Tryz.prog f false true false false W args (.bool true) W' := by
  have hW' := hW
  obtain ⟨p, q, hA, hV, rfl, _, _⟩ := hW
  rw [hv] at hV
  obtain ⟨rfl, rfl⟩ := trodVars_none hV
  have hlt : ∀ x ∈ p, x.block < W.heap.size := fun x hx => hW'.lt x (List.mem_append_left _ hx)
  refine ⟨ds, [], p ++ [], [], p, [], hW', ?_, ?_, ?_, hb.frame _, fun h => by cases h⟩
  · rw [List.append_nil, hfn, hres]
    exact trodAll_mk1 (shut_bool Tryz.underlying4 true)
  · rw [List.append_nil, hfn]
    exact all_stay hb hread hA hlt
  · rw [List.append_nil, hfn, hv]
    exact rfl
theorem Tryz.cellsVal : Tryz.prog.cellsOf 23 = 3 := by kernel_rfl
end
open Go.ChangeShapes Go.WideShapes Go.ChangeAt Go.RowKit Go.Joins Go.Deep
set_option maxRecDepth 100000
instance : Inhabited Val := ⟨nul⟩
section
variable {H : Type} {enc : TypeId × Value → H}
theorem cells_val {W : World} {base n : Nat} {spare : Nat → Bool} {held : Bool} {cs : List Value} {y : DataW H × List MemPlace} (h : DataW.trod enc Tryz.prog W base spare held n 23 cs = some y) :
    ∃ x : Val, cs = [.int .i64 x.k, .int .i64 x.n, .string x.s] ∧ inR x.k = true ∧ inR x.n = true ∧ x.s.size ≤ maxLen := by
  obtain ⟨y0, y1, y2, m, _, hl, h0, h1, h2⟩ := trod_struct3 Tryz.underlying23 h
  rw [Tryz.cellsVal] at hl
  match cs, hl with
  | [v0, v1, v2], _ =>
    obtain ⟨a, e0, _, wa⟩ := DataW.trod_int Tryz.underlying3 h0
    obtain ⟨b, e1, _, wb⟩ := DataW.trod_int Tryz.underlying3 h1
    obtain ⟨s, e2, _, hs⟩ := DataW.trod_string Tryz.underlying9 h2
    have k3 : Tryz.prog.cellsOf 3 = 1 := by kernel_rfl
    have k9 : Tryz.prog.cellsOf 9 = 1 := by kernel_rfl
    simp [k3, k9] at e0 e1 e2
    subst e0 e1 e2
    refine ⟨⟨a, b, s⟩, rfl, ?_, ?_, hs⟩
    · simpa [inR, Lit.wf, IntKind.min, IntKind.signed, IntKind.bits] using wa
    · simpa [inR, Lit.wf, IntKind.min, IntKind.signed, IntKind.bits] using wb
end
open Go.ChangeShapes Go.WideShapes Go.ChangeAt Go.RowKit Go.Joins Go.Deep
set_option maxRecDepth 100000
theorem weights_mem {H : Type} {P : Program} {e : TypeId} {l : List (DataW H)} {d : DataW H} (hd : d ∈ l) {n : Nat} (hn : n ∈ d.weights P e) : n ∈ DataW.weightsAll P e l := by
  induction l with
  | nil => cases hd
  | cons a l ih =>
    simp only [DataW.weightsAll, List.mem_append]
    rcases List.mem_cons.1 hd with rfl | h
    · exact .inl hn
    · exact .inr (ih h)
theorem addr_off (b off n : Nat) : (⟨b, off, none⟩ : Addr).add n = ⟨b, off + n, none⟩ := by
  unfold Addr.add
  split
  · rename_i h; subst h; rfl
  · rfl
theorem addr_here {W : World} {a : Addr} {v : Value} (h : W.cell? a = some v) : a = ⟨a.block, a.off, none⟩ ∧ a.block < W.heap.size := by
  refine ⟨?_, World.block_lt_of_cell? W a (by rw [h])⟩
  obtain ⟨b, o, s⟩ := a
  cases s with
  | none => rfl
  | some k =>
    simp only [World.cell?] at h
    split at h <;> simp at h
section
variable {H : Type} {enc : TypeId × Value → H}
theorem open_arr {α : Type} [Inhabited α] {t e : TypeId} {sz : Nat} (ht : Tryz.prog.underlying t = some (.slice e)) (hsz : Tryz.prog.cellsOf e = sz) (h0 : 0 < sz) {W : World} {base fuel : Nat} {spare : Nat → Bool} {held : Bool} {cs : List Value} {y : DataW H × List MemPlace}
    (P : Nat → Nat → α → Prop) (Q : α → Prop) (hf : DataW.trod enc Tryz.prog W base spare held fuel t cs = some y) (hz : ∀ n ∈ y.1.weights Tryz.prog t, n ≤ reachBytes)
    (hel : ∀ (cs : List Value) (y : DataW H × List MemPlace) (n : Nat), DataW.trod enc Tryz.prog W base spare held n e cs = some y → (∀ n ∈ y.1.weights Tryz.prog e, n ≤ reachBytes) → ∀ g o, (∀ (k : Nat) v, k < sz → cs[k]? = some v → W.cell? ⟨g, o + k, none⟩ = some v) → ∃ x, P g o x ∧ Q x) :
    ∃ (q : Option Addr) (l : List α) (c : Nat), cs = [.slice q l.length c] ∧ l.length ≤ c ∧ c ≤ 9223372036854775807 ∧ l.length * Tryz.prog.bytesOf e ≤ reachBytes ∧ ArrA 0 W.heap.size q sz l P ∧ ∀ x ∈ l, Q x := by
  rcases open_slice ht hf with ⟨hc, _⟩ | ⟨a, len, cap, m, n, D, Pl, hc, hb, hl, hm, hmm, hx, hi⟩
  · exact ⟨none, [], 0, hc, Nat.le_refl _, by omega, by simp, fun i hi => absurd hi (by simp), fun x hx => absurd hx (by simp)⟩
  · have hlm : len ≤ m := by rw [hmm]; split <;> omega
    rw [hsz] at hi
    subst hx
    have hcell : ∀ i, i < len → ∃ cs', (∀ k, k < sz → W.cell? (a.add (i * sz + k)) = cs'[k]?) ∧ cs'.length = sz ∧ DataW.trod enc Tryz.prog W base spare held n e cs' = some (D i, Pl i) := by
      intro i hil
      obtain ⟨cs', hcs, htr⟩ := hi i (by omega)
      obtain ⟨_, hlen, hat⟩ := World.cells?_some hcs
      exact ⟨cs', fun k hk => by have h1 := hat k hk; rw [add_add] at h1; exact h1, hlen, htr⟩
    have haddr : 0 < len → a = ⟨a.block, a.off, none⟩ ∧ a.block < W.heap.size := by
      intro hl0
      obtain ⟨cs', hk, hlen, _⟩ := hcell 0 hl0
      have h1 := hk 0 h0
      rw [Nat.zero_mul, Nat.zero_add, Addr.add, if_pos rfl, List.getElem?_eq_getElem (by omega)] at h1
      exact addr_here h1
    have each : ∀ i, i < len → ∃ x : α, P a.block (a.off + i * sz) x ∧ Q x := by
      intro i hil
      obtain ⟨cs', hk, hlen, htr⟩ := hcell i hil
      refine hel cs' _ n htr (fun w hw => hz w ?_) _ _ (fun k v hks hv => ?_)
      · simp only [DataW.weights, ht]
        exact List.mem_cons_of_mem _ (List.mem_append.2 (.inl (weights_mem (d := D i) (List.mem_map.2 ⟨i, List.mem_range.2 hil, rfl⟩) hw)))
      · have h1 := hk k hks
        rw [(haddr (by omega)).1, addr_off, hv] at h1
        rw [Nat.add_assoc]
        exact h1
    obtain ⟨T, hT⟩ := choose_lt each
    have hlen : ((List.range len).map T).length = len := by simp
    refine ⟨some a, (List.range len).map T, cap, by rw [hlen]; exact hc, by rw [hlen]; exact hl, by unfold maxLen at hm; omega, ?_, fun i hi => ?_, fun x hx => ?_⟩
    · rw [hlen]
      have h1 := hz ((((List.range len).map D).length + ((List.range (m - len)).map fun j => D (len + j)).length) * Tryz.prog.bytesOf e) (by simp [DataW.weights, ht])
      simp at h1
      exact Nat.le_trans (Nat.mul_le_mul_right _ (by omega)) h1
    · rw [hlen] at hi
      obtain ⟨ha, hlt⟩ := haddr (by omega)
      refine ⟨a.block, a.off, by rw [← ha], Nat.zero_le _, hlt, fun j x hx => ?_⟩
      have hj : j < len := by
        rcases Nat.lt_or_ge j len with h | h
        · exact h
        · rw [List.getElem?_eq_none (by rw [hlen]; exact h)] at hx; cases hx
      have : T j = x := by simpa [hj] using hx
      rw [← this]
      exact (hT j hj).1
    · obtain ⟨j, hj, rfl⟩ := List.mem_map.1 hx
      exact (hT j (List.mem_range.1 hj)).2
instance : Inhabited ByteArray := ⟨⟨#[]⟩⟩
instance : Inhabited Col := ⟨⟨⟨#[]⟩, 0⟩⟩
instance : Inhabited Tab := ⟨⟨⟨#[]⟩, [], []⟩⟩
theorem Tryz.cellsStr : Tryz.prog.cellsOf 9 = 1 := by kernel_rfl
theorem Tryz.cellsInt : Tryz.prog.cellsOf 3 = 1 := by kernel_rfl
end
end Go.Proofs.YtklgoajgchfmeaaGreatDoor
