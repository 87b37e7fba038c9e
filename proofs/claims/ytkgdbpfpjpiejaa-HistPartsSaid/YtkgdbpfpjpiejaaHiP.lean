/- Estimates held between nothing and the most: sums, products, parts; histograms as lists of steps. -/
import Derived.Test.YtkgdbpfpjpiejaaValD
namespace Go.Proofs.Ytkgdbpfpjpiejaa
open Go.RowKit
set_option linter.unusedVariables false
set_option linter.unusedSimpArgs false

/-- A step: a value, and how many. -/
structure Stp where
  x : Val
  m : Int

/-- Held between 0 and the most. -/
def clip (n : Int) : Int := if n < 0 then 0 else if 1000000000000 < n then 1000000000000 else n
def addC (a b : Int) : Int := clip (clip a + clip b)
def mulC (a b : Int) : Int := clip (clip a * clip b)
/-- Held between 1 and the most. -/
def divr (n : Int) : Int := if n < 1 then 1 else if 1000000000000 < n then 1000000000000 else n
def timesC (a n d : Int) : Int := mulC a n / divr d
/-- Whether a step lies below a value (or at it). -/
def lies (v : Val) (too : Bool) (s : Stp) : Bool := decide (s.x.cmp v < 0) || (too && s.x.cmp v == 0)
/-- The sum of what is let through. -/
def sumC (f : Stp → Bool) : Int → List Stp → Int
  | n, [] => n
  | n, s :: l => sumC f (if f s then addC n s.m else n) l
def manyL (l : List Stp) : Int := sumC (fun _ => true) 0 l
def belowL (v : Val) (too : Bool) (l : List Stp) : Int := sumC (lies v too) 0 l
/-- The part that a comparison lets through. -/
def partN (op d : Int) (l : List Stp) (v : Val) : Int :=
  if op = 9 then 1 else if op = 10 then divr d - 1 else if op = 11 ∨ op = 12 then belowL v (op == 12) l
  else if op = 13 ∨ op = 14 then divr (manyL l) - belowL v (op == 13) l else 1
def partD (op d : Int) (l : List Stp) : Int :=
  if op = 9 ∨ op = 10 then divr d else if op = 11 ∨ op = 12 ∨ op = 13 ∨ op = 14 then divr (manyL l) else 3

theorem clip_le (n : Int) : 0 ≤ clip n ∧ clip n ≤ 1000000000000 := by unfold clip; split <;> (try split) <;> omega
theorem clip_clip (n : Int) : clip (clip n) = clip n := by
  have := clip_le n
  generalize clip n = m at *
  unfold clip; split <;> (try split) <;> omega
theorem clip_of {n : Int} (h : 0 ≤ n) (h1 : n ≤ 1000000000000) : clip n = n := by unfold clip; rw [if_neg (by omega), if_neg (by omega)]
theorem clip_most {n : Int} (h1 : 1000000000000 ≤ n) : clip n = 1000000000000 := by unfold clip; rw [if_neg (by omega)]; split <;> omega
theorem clip_mono {a b : Int} (h : a ≤ b) : clip a ≤ clip b := by unfold clip; split <;> split <;> (try split) <;> (try split) <;> omega
theorem divr_le (n : Int) : 1 ≤ divr n ∧ divr n ≤ 1000000000000 := by unfold divr; split <;> (try split) <;> omega
theorem divr_eq (n : Int) : divr n = if clip n < 1 then 1 else clip n := by unfold divr clip; split <;> split <;> (try split) <;> (try split) <;> omega
theorem divr_of {n : Int} (h : 0 < n) (h1 : n ≤ 1000000000000) : divr n = n := by unfold divr; rw [if_neg (by omega), if_neg (by omega)]
theorem addC_le (a b : Int) : 0 ≤ addC a b ∧ addC a b ≤ 1000000000000 := clip_le _
theorem mulC_le (a b : Int) : 0 ≤ mulC a b ∧ mulC a b ≤ 1000000000000 := clip_le _
theorem addC_comm (a b : Int) : addC a b = addC b a := by unfold addC; rw [Int.add_comm]
theorem mulC_comm (a b : Int) : mulC a b = mulC b a := by unfold mulC; rw [Int.mul_comm]
theorem addC_assoc (a b c : Int) : addC (addC a b) c = addC a (addC b c) := by
  unfold addC
  rw [clip_clip, clip_clip]
  have h1 := clip_le a
  have h2 := clip_le b
  have h3 := clip_le c
  generalize clip a = x at *
  generalize clip b = y at *
  generalize clip c = z at *
  unfold clip
  split <;> split <;> (try split) <;> (try split) <;> (try split) <;> (try split) <;> omega
theorem addC_mono {a b : Int} (c : Int) (h : a ≤ b) : addC a c ≤ addC b c := clip_mono (Int.add_le_add_right (clip_mono h) _)
theorem mulC_mono {a b : Int} (c : Int) (h : a ≤ b) : mulC a c ≤ mulC b c := clip_mono (Int.mul_le_mul_of_nonneg_right (clip_mono h) (clip_le c).1)
theorem timesC_mono {a b : Int} (c d : Int) (h : a ≤ b) : timesC a c d ≤ timesC b c d := Int.ediv_le_ediv (by have := divr_le d; omega) (mulC_mono c h)
theorem timesC_le (a n d : Int) : 0 ≤ timesC a n d ∧ timesC a n d ≤ 1000000000000 := by
  have h1 := mulC_le a n
  have h2 := divr_le d
  unfold timesC
  refine ⟨Int.ediv_nonneg h1.1 (by omega), Int.le_trans (Int.ediv_le_self _ h1.1) h1.2⟩
theorem timesC_one (a : Int) : timesC a 1 1 = clip a := by
  unfold timesC mulC
  rw [show clip 1 = 1 by rfl, show divr 1 = 1 by rfl, Int.mul_one, clip_clip, Int.ediv_one]
theorem addC_clipL (a b : Int) : addC (clip a) b = addC a b := by unfold addC; rw [clip_clip]

/-- A sum is the sum of what is let through, held once: in whatever order. -/
theorem sumC_add (f : Stp → Bool) : ∀ (l : List Stp) (n : Int), 0 ≤ n → n ≤ 1000000000000 → sumC f n l = addC n (sumC f 0 l)
  | [], n, h, h1 => by
    show n = addC n 0
    unfold addC
    rw [clip_of h h1, show clip 0 = 0 by rfl, Int.add_zero, clip_of h h1]
  | s :: l, n, h, h1 => by
    show sumC f (if f s then addC n s.m else n) l = addC n (sumC f (if f s then addC 0 s.m else 0) l)
    cases f s with
    | false => exact sumC_add f l n h h1
    | true =>
      rw [if_pos rfl, if_pos rfl, sumC_add f l _ (addC_le _ _).1 (addC_le _ _).2, sumC_add f l (addC 0 s.m) (addC_le _ _).1 (addC_le _ _).2, addC_assoc]
      have e : ∀ u, addC s.m u = addC (addC 0 s.m) u := fun u => by
        have : addC 0 s.m = clip s.m := by unfold addC; rw [show clip 0 = 0 by rfl, Int.zero_add, clip_clip]
        rw [this, addC_clipL]
      rw [e]
theorem sumC_le (f : Stp → Bool) : ∀ (l : List Stp) (n : Int), 0 ≤ n → n ≤ 1000000000000 → 0 ≤ sumC f n l ∧ sumC f n l ≤ 1000000000000
  | [], n, h, h1 => ⟨h, h1⟩
  | s :: l, n, h, h1 => by
    show 0 ≤ sumC f (if f s then addC n s.m else n) l ∧ sumC f (if f s then addC n s.m else n) l ≤ 1000000000000
    cases f s with
    | false => exact sumC_le f l n h h1
    | true => exact sumC_le f l _ (addC_le _ _).1 (addC_le _ _).2
theorem sumC_append (f : Stp → Bool) : ∀ (l m : List Stp) (n : Int), sumC f n (l ++ m) = sumC f (sumC f n l) m
  | [], _, _ => rfl
  | s :: l, m, n => sumC_append f l m _
theorem addC_ge (a b : Int) (h : 0 ≤ a) (h1 : a ≤ 1000000000000) : a ≤ addC a b := by
  have := clip_le b
  unfold addC
  rw [clip_of h h1]
  generalize clip b = c at *
  unfold clip
  split <;> (try split) <;> omega
theorem sumC_mono (f : Stp → Bool) : ∀ (l : List Stp) (a b : Int), a ≤ b → sumC f a l ≤ sumC f b l
  | [], a, b, h => h
  | s :: l, a, b, h => by
    show sumC f (if f s then addC a s.m else a) l ≤ sumC f (if f s then addC b s.m else b) l
    cases f s with
    | false => exact sumC_mono f l a b h
    | true => exact sumC_mono f l _ _ (addC_mono _ h)
theorem sumC_sub (f g : Stp → Bool) (hfg : ∀ s, f s = true → g s = true) : ∀ (l : List Stp) (n : Int), 0 ≤ n → n ≤ 1000000000000 → sumC f n l ≤ sumC g n l
  | [], n, _, _ => Int.le_refl _
  | s :: l, n, h, h1 => by
    show sumC f (if f s then addC n s.m else n) l ≤ sumC g (if g s then addC n s.m else n) l
    cases hf : f s with
    | true =>
      rw [hfg s hf, if_pos rfl]
      exact sumC_sub f g hfg l _ (addC_le _ _).1 (addC_le _ _).2
    | false =>
      cases g s with
      | false => exact sumC_sub f g hfg l _ h h1
      | true => exact Int.le_trans (sumC_mono f l _ _ (addC_ge n s.m h h1)) (sumC_sub f g hfg l _ (addC_le _ _).1 (addC_le _ _).2)
theorem sumC_one (f : Stp → Bool) (s : Stp) (n : Int) : sumC f n [s] = if f s then addC n s.m else n := rfl
theorem sumC_reverse (f : Stp → Bool) : ∀ (l : List Stp), sumC f 0 l.reverse = sumC f 0 l
  | [] => rfl
  | s :: l => by
    rw [List.reverse_cons, sumC_append, sumC_reverse f l, sumC_one]
    show (if f s then addC (sumC f 0 l) s.m else sumC f 0 l) = sumC f (if f s then addC 0 s.m else 0) l
    cases f s with
    | false => rfl
    | true =>
      rw [if_pos rfl, if_pos rfl, sumC_add f l _ (addC_le _ _).1 (addC_le _ _).2]
      have : addC 0 s.m = clip s.m := by unfold addC; rw [show clip 0 = 0 by rfl, Int.zero_add, clip_clip]
      rw [this, addC_clipL, addC_comm]

theorem many_le (l : List Stp) : 0 ≤ manyL l ∧ manyL l ≤ 1000000000000 := sumC_le _ l 0 (by omega) (by omega)
theorem below_le (v : Val) (t : Bool) (l : List Stp) : 0 ≤ belowL v t l ∧ belowL v t l ≤ manyL l := ⟨(sumC_le _ l 0 (by omega) (by omega)).1, sumC_sub _ _ (fun _ _ => rfl) l 0 (by omega) (by omega)⟩
theorem below_too (v : Val) (l : List Stp) : belowL v false l ≤ belowL v true l := sumC_sub _ _ (fun s h => by
  unfold lies at *
  simp at h
  simp [h]) l 0 (by omega) (by omega)
theorem many_rev (l : List Stp) : manyL l.reverse = manyL l := sumC_reverse _ l
theorem below_rev (v : Val) (t : Bool) (l : List Stp) : belowL v t l.reverse = belowL v t l := sumC_reverse _ l
theorem many_more (l : List Stp) (s : Stp) : manyL l ≤ manyL (l ++ [s]) := by
  unfold manyL
  rw [sumC_append, sumC_one, if_pos rfl]
  exact addC_ge _ _ (many_le l).1 (many_le l).2
theorem below_more (v : Val) (t : Bool) (l : List Stp) (s : Stp) : belowL v t l ≤ belowL v t (l ++ [s]) := by
  unfold belowL
  rw [sumC_append, sumC_one]
  have h := sumC_le (lies v t) l 0 (by omega) (by omega)
  split
  · exact addC_ge _ _ h.1 h.2
  · exact Int.le_refl _

/-- What a part says, told by its denominators. -/
theorem part_ok (op d : Int) (l : List Stp) (v : Val) : 0 ≤ partN op d l v ∧ 1 ≤ partD op d l ∧ partN op d l v ≤ partD op d l := by
  have h1 := divr_le d
  have h2 := divr_le (manyL l)
  have h3 := many_le l
  have h4 := below_le v (op == 12) l
  have h5 := below_le v (op == 13) l
  have h6 : manyL l ≤ divr (manyL l) := by unfold divr; split <;> (try split) <;> omega
  unfold partN partD
  generalize belowL v (op == 12) l = b1 at *
  generalize belowL v (op == 13) l = b2 at *
  generalize divr (manyL l) = e at *
  generalize manyL l = f at *
  generalize divr d = g at *
  split <;> (try split) <;> (try split) <;> (try split) <;> (try split) <;> (try split) <;> omega
theorem part_whole (d : Int) (l : List Stp) (v : Val) (h : 0 < manyL l) : partN 12 d l v + partN 13 d l v = partD 12 d l ∧ partN 11 d l v + partN 14 d l v = partD 11 d l := by
  have h3 := many_le l
  have e : divr (manyL l) = manyL l := divr_of h h3.2
  simp only [partN, partD]
  simp
  omega
theorem part_le (d : Int) (l : List Stp) (v : Val) : partN 11 d l v ≤ partN 12 d l v := by
  have := below_too v l
  simpa [partN] using this
theorem part_rev (op d : Int) (l : List Stp) (v : Val) : partN op d l.reverse v = partN op d l v ∧ partD op d l.reverse = partD op d l := by
  unfold partN partD
  rw [many_rev, below_rev, below_rev]
  exact ⟨rfl, rfl⟩

end Go.Proofs.Ytkgdbpfpjpiejaa
