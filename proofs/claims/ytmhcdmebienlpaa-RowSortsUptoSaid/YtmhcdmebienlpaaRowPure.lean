/- Rows: the same, of one length; the order of rows; what the same rows have in common. No program is walked here. -/
import Derived.Test.YtmhcdmebienlpaaLists
import Derived.Test.YtmhcdmebienlpaaCode
import Derived.Test.YtmhcdmebienlpaaRowHash
import Derived.Test.YtmhcdmebienlpaaValO
namespace Go.Proofs.Ytmhcdmebienlpaa
open Go.RowKit

theorem same_val {a b : Val} : (a.k == b.k && a.n == b.n && a.s.toList == b.s.toList) = true ↔ a = b := by
  obtain ⟨k, n, ⟨s⟩⟩ := a
  obtain ⟨l, m, ⟨t⟩⟩ := b
  simp only [Bool.and_eq_true, beq_iff_eq, Val.mk.injEq, ByteArray.toList_eq, ByteArray.mk.injEq, Array.toList_inj, and_assoc]
theorem sameRow_iff {x y : Nat → Val} {n : Nat} : sameRow x y n = true ↔ ∀ i, i < n → x i = y i := by
  induction n with
  | zero => simp [sameRow]
  | succ n ih =>
    unfold sameRow
    rw [Bool.and_eq_true, ih, same_val]
    constructor
    · rintro ⟨h1, h2⟩ i hi
      by_cases e : i = n
      · subst e; exact h2
      · exact h1 i (by omega)
    · intro h
      exact ⟨fun i hi => h i (by omega), h n (by omega)⟩

/-- Two rows, the same? -/
def same1 (n m : Nat) (x y : Nat → Val) : Bool := n == m && sameRow x y n
theorem same1_iff {n m : Nat} {x y : Nat → Val} : same1 n m x y = true ↔ n = m ∧ ∀ i, i < n → x i = y i := by
  unfold same1
  rw [Bool.and_eq_true, sameRow_iff, beq_iff_eq]

theorem encRow_same {n : Nat} {x y : Nat → Val} (h : ∀ i, i < n → x i = y i) : encRow x n = encRow y n := by
  induction n with
  | zero => rfl
  | succ n ih => rw [encRow, encRow, ih (fun i hi => h i (by omega)), h n (by omega)]
theorem hashTo_same {n : Nat} {x y : Nat → Val} (h : ∀ i, i < n → x i = y i) : hashTo x n = hashTo y n := by
  induction n with
  | zero => rfl
  | succ n ih => rw [hashTo, hashTo, ih (fun i hi => h i (by omega)), h n (by omega)]

theorem allRight_iff {x : Nat → Val} {n : Nat} : allRight n x = true ↔ ∀ i, i < n → (x i).right = true := by
  constructor
  · intro h i hi; exact allRight_one h hi
  · intro h
    induction n with
    | zero => rfl
    | succ n ih =>
      unfold allRight
      rw [ih (fun i hi => h i (by omega)), h n (by omega)]
      rfl
theorem encE_zero {n : Nat} {x : Nat → Val} : encE n x = 0 ↔ n ≤ 100 ∧ allRight n x = true := by
  unfold encE
  by_cases h : 100 < n
  · simp [h]; omega
  · cases hr : allRight n x
    · simp [h]
    · simp [h]; omega
theorem encS_of {n : Nat} {x : Nat → Val} (h : encE n x = 0) : encS n x = ⟨(encRow x n).toArray⟩ := by
  obtain ⟨h1, h2⟩ := encE_zero.1 h
  unfold encS
  rw [if_neg (by omega), if_pos h2]

/-- The bytes of a right row are read as that row. -/
theorem read_back {n : Nat} {x : Nat → Val} (h : encE n x = 0) (hi : ∀ i, i < n → inR (x i).n = true) : decRun (encS n x).size (encS n x) [] = some ((List.range n).map x) := by
  obtain ⟨h1, h2⟩ := encE_zero.1 h
  rw [enc_dec_all ((List.range n).map x) _ (encS n x) [] ?_ ?_ (Nat.le_refl _) ?_]
  · rfl
  · rw [encS_of h, encL_range]
  · intro v hv
    simp at hv
    obtain ⟨i, hi', rfl⟩ := hv
    exact ⟨allRight_one h2 hi', hi i hi'⟩
  · simp; omega

/-- Two right rows have the same bytes just if they are the same. -/
theorem bytes_same {n m : Nat} {x y : Nat → Val} (hx : encE n x = 0) (hy : encE m y = 0) (hxi : ∀ i, i < n → inR (x i).n = true) (hyi : ∀ i, i < m → inR (y i).n = true) : ((encS n x).toList == (encS m y).toList) = same1 n m x y := by
  rw [Bool.eq_iff_iff, same1_iff, beq_iff_eq]
  constructor
  · intro h
    have he : encS n x = encS m y := by
      apply ByteArray.ext
      rw [ByteArray.toList_eq, ByteArray.toList_eq] at h
      exact Array.toList_inj.1 h
    have h1 := read_back hx hxi
    have h2 := read_back hy hyi
    rw [he, h2] at h1
    simp only [Option.some.injEq] at h1
    have hl := congrArg List.length h1
    simp at hl
    refine ⟨hl.symm, fun i hi => ?_⟩
    have := congrArg (fun l => l[i]?) h1
    simp [hi, show i < m by omega] at this
    exact this.symm
  · rintro ⟨rfl, h⟩
    rw [encS_of hx, encS_of hy, encRow_same h]

theorem cmpFrom_zero {n m : Nat} {x y : Nat → Val} : ∀ (f k : Nat), f + k = min n m → (cmpFrom n m x y f k = 0 ↔ n = m ∧ ∀ i, k ≤ i → i < min n m → x i = y i) := by
  intro f
  induction f with
  | zero =>
    intro k hk
    rw [cmpFrom]
    constructor
    · intro h
      refine ⟨?_, fun i h1 h2 => by omega⟩
      split at h
      · omega
      · split at h <;> omega
    · rintro ⟨h, _⟩
      rw [if_neg (by omega), if_neg (by omega)]
  | succ f ih =>
    intro k hk
    rw [cmpFrom]
    by_cases hc : (x k).cmp (y k) = 0
    · rw [if_neg (by simp [hc]), ih (k + 1) (by omega)]
      have hxy := cmp_zero hc
      constructor
      · rintro ⟨h1, h2⟩
        refine ⟨h1, fun i hi hi2 => ?_⟩
        by_cases e : i = k
        · subst e; exact hxy
        · exact h2 i (by omega) hi2
      · rintro ⟨h1, h2⟩
        exact ⟨h1, fun i hi hi2 => h2 i (by omega) hi2⟩
    · rw [if_pos (by simpa using hc)]
      constructor
      · intro h; exact absurd h hc
      · rintro ⟨h1, h2⟩
        rw [h2 k (Nat.le_refl _) (by omega)] at hc
        exact absurd (cmp_self _) hc
/-- None of two rows goes ahead just if they are the same. -/
theorem cmpRow_zero {n m : Nat} {x y : Nat → Val} : (cmpRow n m x y == 0) = same1 n m x y := by
  rw [Bool.eq_iff_iff, same1_iff, beq_iff_eq, cmpRow, cmpFrom_zero _ _ (by omega)]
  constructor
  · rintro ⟨rfl, h⟩
    exact ⟨rfl, fun i hi => h i (by omega) (by omega)⟩
  · rintro ⟨rfl, h⟩
    exact ⟨rfl, fun i _ hi => h i (by omega)⟩

theorem range_list (L : List Val) : (List.range L.length).map (fun i => L[i]?.getD nul) = L := by
  apply List.ext_getElem?
  intro i
  by_cases h : i < L.length
  · simp [h]
  · simp [h]
/-- Right values, at most 100, and their bytes. -/
theorem enc_list {L : List Val} {s : ByteArray} (h1 : s.data.toList = encL L) (h2 : ∀ v ∈ L, v.right = true) (h3 : L.length ≤ 100) :
    encE L.length (fun i => L[i]?.getD nul) = 0 ∧ encS L.length (fun i => L[i]?.getD nul) = s ∧ (allRight L.length (fun i => L[i]?.getD nul) && decide (L.length ≤ 100)) = true := by
  have hr : allRight L.length (fun i => L[i]?.getD nul) = true := allRight_iff.2 fun i hi => by
    rw [List.getElem?_eq_getElem hi]
    exact h2 _ (List.getElem_mem hi)
  have hE := encE_zero.2 ⟨h3, hr⟩
  refine ⟨hE, ?_, by rw [hr]; simpa using h3⟩
  rw [encS_of hE]
  apply ByteArray.ext
  apply Array.ext'
  rw [h1, ← encL_range, range_list]

/-- A list of one row. -/
theorem list_one {W : World} {g : Nat} {t : TypeId} {p : Option Addr} {n c : Nat} {x : Nat → Val} (hg : W.heap[g]? = some (.cells #[.slice p n c] t)) (hR : RowP W p n x) (hn : n ≤ 9223372036854775807) :
    ListP W (some ⟨g, 0, none⟩) 1 (fun _ => p) (fun _ => n) (fun _ => c) (fun _ => x) := by
  refine ⟨fun k hk => ⟨g, 0, rfl, ?_, fun i hi => ?_⟩, fun i hi => hR, fun i hi => hn⟩
  · rcases Nat.lt_or_ge g W.heap.size with h | h
    · exact h
    · rw [Array.getElem?_eq_none h] at hg; cases hg
  · have : i = 0 := by omega
    subst this
    simp [World.cell?, hg]
theorem sameRows_one (n m : Nat) (x y : Nat → Val) : ((1 : Nat) == 1 && sameRows (fun _ => n) (fun _ => m) (fun _ => x) (fun _ => y) 1) = same1 n m x y := by
  simp [sameRows, same1]

end Go.Proofs.Ytmhcdmebienlpaa
