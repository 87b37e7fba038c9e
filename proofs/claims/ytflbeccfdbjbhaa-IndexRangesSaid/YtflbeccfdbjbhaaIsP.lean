/- The merge of two sorted ranges in place: what holds of the places; no program is walked here. -/
import Derived.Test.YtflbeccfdbjbhaaIsR
namespace Go.Proofs.Ytflbeccfdbjbhaa
open Go.RowKit
open Go.Sort (swp PermIn SortedIn SWO Ins)

variable {lt : Nat → Nat → Bool}

/-- One element from the left goes in among those on the right. -/
theorem ins_left (hS : SWO lt) {d e : Array Nat} {a b i : Nat} (hi : a + 1 ≤ i) (hib : i ≤ b) (hs : SortedIn lt (a + 1) b d) (h1 : ∀ h, a + 1 ≤ h → h < i → lt d[h]! d[a]! = true) (h2 : ∀ h, i ≤ h → h < b → lt d[h]! d[a]! = false)
    (he : ∀ k, e[k]! = if a ≤ k ∧ k < i - 1 then d[k + 1]! else if k = i - 1 then d[a]! else d[k]!) : SortedIn lt a b e := by
  intro p q hp hpq hq
  rw [he, he]
  by_cases c1 : a ≤ q ∧ q < i - 1
  · rw [if_pos c1, if_pos (by omega)]
    exact hs _ _ (by omega) (by omega) (by omega)
  · rw [if_neg c1]
    by_cases c2 : q = i - 1
    · rw [if_pos c2, if_pos (by omega)]
      exact hS.asymmA (h1 (p + 1) (by omega) (by omega))
    · rw [if_neg c2]
      by_cases c3 : a ≤ p ∧ p < i - 1
      · rw [if_pos c3]
        exact hs _ _ (by omega) (by omega) hq
      · rw [if_neg c3]
        by_cases c4 : p = i - 1
        · rw [if_pos c4]
          exact h2 q (by omega) hq
        · rw [if_neg c4]
          exact hs _ _ (by omega) hpq hq

/-- One element from the right goes in among those on the left. -/
theorem ins_right (hS : SWO lt) {d e : Array Nat} {a m i : Nat} (hi : a ≤ i) (him : i ≤ m) (hs : SortedIn lt a m d) (h1 : ∀ h, a ≤ h → h < i → lt d[m]! d[h]! = false) (h2 : ∀ h, i ≤ h → h < m → lt d[m]! d[h]! = true)
    (he : ∀ k, e[k]! = if i < k ∧ k ≤ m then d[k - 1]! else if k = i then d[m]! else d[k]!) : SortedIn lt a (m + 1) e := by
  intro p q hp hpq hq
  rw [he, he]
  by_cases c1 : i < q ∧ q ≤ m
  · rw [if_pos c1]
    by_cases c2 : i < p ∧ p ≤ m
    · rw [if_pos c2]
      exact hs _ _ (by omega) (by omega) (by omega)
    · rw [if_neg c2]
      by_cases c3 : p = i
      · rw [if_pos c3]
        exact hS.asymmA (h2 (q - 1) (by omega) (by omega))
      · rw [if_neg c3]
        by_cases c4 : p = q - 1
        · omega
        · exact hs _ _ hp (by omega) (by omega)
  · rw [if_neg c1]
    by_cases c2 : q = i
    · rw [if_pos c2, if_neg (by omega), if_neg (by omega)]
      exact h1 p hp (by omega)
    · rw [if_neg c2, if_neg (by omega), if_neg (by omega)]
      exact hs _ _ hp hpq (by omega)

/-- Two halves, each in order, none of the right ahead of one of the left. -/
theorem halves {d : Array Nat} {a m b : Nat} (h1 : SortedIn lt a m d) (h2 : SortedIn lt m b d) (hc : ∀ i j, a ≤ i → i < m → m ≤ j → j < b → lt d[j]! d[i]! = false) : SortedIn lt a b d := by
  intro p q hp hpq hq
  by_cases c : q < m
  · exact h1 p q hp hpq c
  · by_cases c2 : p < m
    · exact hc p q hp c2 (by omega) hq
    · exact h2 p q (by omega) hpq hq

/-- Where the binary search of the merge stands: what it has found, on both sides of start. -/
structure Cut (lt : Nat → Nat → Bool) (d : Array Nat) (a m b start : Nat) : Prop where
  lo : ((a + b) / 2 < m → (a + b) / 2 + m ≤ start + b) ∧ (m ≤ (a + b) / 2 → a ≤ start)
  hi : ((a + b) / 2 < m → start ≤ (a + b) / 2) ∧ (m ≤ (a + b) / 2 → start ≤ m)
  left : ∀ c, a ≤ c → (a + b) / 2 + m ≤ c + b → c < start → lt d[(a + b) / 2 + m - 1 - c]! d[c]! = false
  right : ∀ c, start ≤ c → c < m → c < (a + b) / 2 → lt d[(a + b) / 2 + m - 1 - c]! d[c]! = true

/-- One test tells all that lie below. -/
theorem cut_left (hS : SWO lt) {d : Array Nat} {a m b c c' : Nat} (h1 : SortedIn lt a m d) (h2 : SortedIn lt m b d) (hc' : a ≤ c') (hcc : c' ≤ c) (hcm : c < m) (hb : (a + b) / 2 + m ≤ c' + b) (hm : c < (a + b) / 2) (ht : lt d[(a + b) / 2 + m - 1 - c]! d[c]! = false) :
    lt d[(a + b) / 2 + m - 1 - c']! d[c']! = false := by
  by_cases e : c' = c
  · subst e; exact ht
  · exact hS.ntrans _ _ _ (hS.ntrans _ _ _ (h2 ((a + b) / 2 + m - 1 - c) ((a + b) / 2 + m - 1 - c') (by omega) (by omega) (by omega)) ht) (h1 c' c hc' (by omega) hcm)
theorem cut_right (hS : SWO lt) {d : Array Nat} {a m b c c' : Nat} (h1 : SortedIn lt a m d) (h2 : SortedIn lt m b d) (hc : a ≤ c) (hcc : c ≤ c') (hcm : c' < m) (hb : (a + b) / 2 + m ≤ c + b) (hm : c' < (a + b) / 2) (ht : lt d[(a + b) / 2 + m - 1 - c]! d[c]! = true) :
    lt d[(a + b) / 2 + m - 1 - c']! d[c']! = true := by
  cases hv : lt d[(a + b) / 2 + m - 1 - c']! d[c']! with
  | true => rfl
  | false =>
    have := cut_left hS h1 h2 hc hcc hcm hb hm hv
    rw [ht] at this
    cases this

/-- Behind the rotation: four pieces in order; none of the right half ahead of one of the left. -/
theorem cut_rot (hS : SWO lt) {d e : Array Nat} {a m b start : Nat} (ham : a < m) (hmb : m < b) (h1 : SortedIn lt a m d) (h2 : SortedIn lt m b d) (C : Cut lt d a m b start)
    (he : ∀ k, e[k]! = rot (fun k => d[k]!) start m ((a + b) / 2 + m - start) k) :
    SortedIn lt a start e ∧ SortedIn lt start ((a + b) / 2) e ∧ SortedIn lt ((a + b) / 2) ((a + b) / 2 + m - start) e ∧ SortedIn lt ((a + b) / 2 + m - start) b e ∧
    ∀ i j, a ≤ i → i < (a + b) / 2 → (a + b) / 2 ≤ j → j < b → lt e[j]! e[i]! = false := by
  obtain ⟨⟨lo1, lo2⟩, ⟨hi1, hi2⟩, hl, hr⟩ := C
  have hmid : a ≤ (a + b) / 2 ∧ (a + b) / 2 < b := by omega
  generalize hM : (a + b) / 2 = M at *
  have hst : start ≤ m ∧ start ≤ M ∧ a ≤ start ∧ M + m ≤ start + b := by omega
  have g1 : ∀ k, k < start → e[k]! = d[k]! := fun k hk => by rw [he]; unfold rot; rw [if_neg (by omega), if_neg (by omega)]
  have g2 : ∀ k, start ≤ k → k < M → e[k]! = d[m + (k - start)]! := fun k h3 h4 => by rw [he]; unfold rot; rw [if_pos (by omega)]
  have g3 : ∀ k, M ≤ k → k < M + m - start → e[k]! = d[start + (k - M)]! := fun k h3 h4 => by rw [he]; unfold rot; rw [if_neg (by omega), if_pos (by omega)]; congr 1; omega
  have g4 : ∀ k, M + m - start ≤ k → e[k]! = d[k]! := fun k h3 => by rw [he]; unfold rot; rw [if_neg (by omega), if_neg (by omega)]
  refine ⟨?_, ?_, ?_, ?_, ?_⟩
  · intro p q hp hpq hq
    rw [g1 p (by omega), g1 q hq]
    exact h1 p q hp hpq (by omega)
  · intro p q hp hpq hq
    rw [g2 p hp (by omega), g2 q (by omega) hq]
    exact h2 _ _ (by omega) (by omega) (by omega)
  · intro p q hp hpq hq
    rw [g3 p hp (by omega), g3 q (by omega) hq]
    exact h1 _ _ (by omega) (by omega) (by omega)
  · intro p q hp hpq hq
    rw [g4 p hp, g4 q (by omega)]
    exact h2 _ _ (by omega) hpq hq
  · intro i j hi hiM hMj hjb
    by_cases ci : i < start
    · rw [g1 i ci]
      by_cases cj : j < M + m - start
      · rw [g3 j hMj cj]
        exact h1 _ _ hi (by omega) (by omega)
      · rw [g4 j (by omega)]
        have hb := hl (start - 1) (by omega) (by omega) (by omega)
        have hb' : lt d[M + m - start]! d[start - 1]! = false := by
          rw [show M + m - start = M + m - 1 - (start - 1) by omega]; exact hb
        have s1 : lt d[j]! d[M + m - start]! = false := by
          by_cases e : M + m - start = j
          · rw [e]; exact hS.irrefl _
          · exact h2 _ _ (by omega) (by omega) hjb
        have s2 : lt d[start - 1]! d[i]! = false := by
          by_cases e : i = start - 1
          · rw [e]; exact hS.irrefl _
          · exact h1 _ _ hi (by omega) (by omega)
        exact hS.ntrans _ _ _ (hS.ntrans _ _ _ s1 hb') s2
    · rw [g2 i (by omega) hiM]
      by_cases cj : j < M + m - start
      · rw [g3 j hMj cj]
        have hb := hr start (Nat.le_refl _) (by omega) (by omega)
        have hb' := hS.asymmA hb
        have s1 : lt d[start + (j - M)]! d[start]! = false := by
          by_cases e : j = M
          · rw [e, Nat.sub_self, Nat.add_zero]; exact hS.irrefl _
          · exact h1 _ _ (by omega) (by omega) (by omega)
        have s2 : lt d[M + m - 1 - start]! d[m + (i - start)]! = false := by
          by_cases e : m + (i - start) = M + m - 1 - start
          · rw [e]; exact hS.irrefl _
          · exact h2 _ _ (by omega) (by omega) (by omega)
        exact hS.ntrans _ _ _ (hS.ntrans _ _ _ s1 hb') s2
      · rw [g4 j (by omega)]
        exact h2 _ _ (by omega) (by omega) hjb

/-- The places in the left range are less than those in the right. -/
def Lo (a m b : Nat) (d : Array Nat) : Prop := ∀ p q, a ≤ p → p < m → m ≤ q → q < b → d[p]! < d[q]!
theorem cut_rot2 (hS : SWO lt) {d e : Array Nat} {a m b start : Nat} (ham : a < m) (hmb : m < b) (h1 : SortedIn lt a m d) (h2 : SortedIn lt m b d) (hL : Lo a m b d) (C : Cut lt d a m b start)
    (he : ∀ k, e[k]! = rot (fun k => d[k]!) start m ((a + b) / 2 + m - start) k) :
    (SortedIn lt a start e ∧ SortedIn lt start ((a + b) / 2) e ∧ SortedIn lt ((a + b) / 2) ((a + b) / 2 + m - start) e ∧ SortedIn lt ((a + b) / 2 + m - start) b e ∧
    ∀ i j, a ≤ i → i < (a + b) / 2 → (a + b) / 2 ≤ j → j < b → lt e[j]! e[i]! = false) ∧ Lo a start ((a + b) / 2) e ∧ Lo ((a + b) / 2) ((a + b) / 2 + m - start) b e := by
  refine ⟨cut_rot hS ham hmb h1 h2 C he, ?_⟩
  obtain ⟨⟨lo1, lo2⟩, ⟨hi1, hi2⟩, hl, hr⟩ := C
  have hmid : a ≤ (a + b) / 2 ∧ (a + b) / 2 < b := by omega
  generalize hM : (a + b) / 2 = M at *
  have hst : start ≤ m ∧ start ≤ M ∧ a ≤ start ∧ M + m ≤ start + b := by omega
  have g1 : ∀ k, k < start → e[k]! = d[k]! := fun k hk => by rw [he]; unfold rot; rw [if_neg (by omega), if_neg (by omega)]
  have g2 : ∀ k, start ≤ k → k < M → e[k]! = d[m + (k - start)]! := fun k h3 h4 => by rw [he]; unfold rot; rw [if_pos (by omega)]
  have g3 : ∀ k, M ≤ k → k < M + m - start → e[k]! = d[start + (k - M)]! := fun k h3 h4 => by rw [he]; unfold rot; rw [if_neg (by omega), if_pos (by omega)]; congr 1; omega
  have g4 : ∀ k, M + m - start ≤ k → e[k]! = d[k]! := fun k h3 => by rw [he]; unfold rot; rw [if_neg (by omega), if_neg (by omega)]
  constructor
  · intro p q h5 h6 h7 h8
    rw [g1 p h6, g2 q h7 h8]
    exact hL _ _ h5 (by omega) (by omega) (by omega)
  · intro p q h5 h6 h7 h8
    rw [g3 p h5 h6, g4 q h7]
    exact hL _ _ (by omega) (by omega) (by omega) h8

end Go.Proofs.Ytflbeccfdbjbhaa
