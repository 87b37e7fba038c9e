/- The tokens of a text, told by a function on its bytes. No program is walked here. -/
import Derived.Test.YtgmmbfcjjgehoaaGreatDoorVal
namespace Go.Proofs.YtgmmbfcjjgehoaaGreatDoor

abbrev Bs := List UInt8
def isBlank (b : UInt8) : Bool := b == 32 || b == 9 || b == 10 || b == 13
def isLetter (b : UInt8) : Bool := (decide (97 ≤ b) && decide (b ≤ 122)) || (decide (65 ≤ b) && decide (b ≤ 90))
def isDigit (b : UInt8) : Bool := decide (48 ≤ b) && decide (b ≤ 57)
def isWordB (b : UInt8) : Bool := isLetter b || isDigit b || b == 95
def lower (b : UInt8) : UInt8 := if 65 ≤ b ∧ b ≤ 90 then b + 32 else b
def numStep (n : Nat) (b : UInt8) : Nat := 10 * n + (b.toNat - 48)
def numOf (l : Bs) : Nat := l.foldl numStep 0
/-- The words of a query. -/
def lexWords : List Bs := [[115, 101, 108, 101, 99, 116], [100, 105, 115, 116, 105, 110, 99, 116], [102, 114, 111, 109], [106, 111, 105, 110], [108, 101, 102, 116], [115, 101, 109, 105], [111, 110], [119, 104, 101, 114, 101], [103, 114, 111, 117, 112], [98, 121], [117, 110, 105, 111, 110], [97, 108, 108], [111, 114, 100, 101, 114], [100, 101, 115, 99], [97, 110, 100], [111, 114], [110, 111, 116], [105, 115], [110, 117, 108, 108], [116, 114, 117, 101], [102, 97, 108, 115, 101], [99, 111, 117, 110, 116], [115, 117, 109], [109, 105, 110], [109, 97, 120]]
/-- The signs of one byte: < > = + - * / ( ) , . -/
def singles : Bs := [60, 62, 61, 43, 45, 42, 47, 40, 41, 44, 46]

structure Tok where
  kd : Nat
  n : Nat
  at_ : Nat
  s : Bs
/-- What stands at the beginning of bytes: a token, and how many of them it takes; or an error, and how far from there. -/
inductive One where
  | tok (kd n : Nat) (s : Bs) (used : Nat)
  | err (e rel : Nat)

/-- Behind a quote: what is between, and how many bytes to the quote that ends it, this included. -/
def textOf : Bs → Option (Bs × Nat)
  | [] => none
  | [b] => if b = 39 then some ([], 1) else none
  | b :: c :: r => if b = 39 then (if c = 39 then (textOf r).map fun x => (39 :: x.1, x.2 + 2) else some ([], 1)) else (textOf (c :: r)).map fun x => (b :: x.1, x.2 + 1)
def signOf : Bs → Option Bs
  | [] => none
  | [b] => if b ∈ singles then some [b] else none
  | b :: c :: _ => if b = 60 ∧ c = 61 then some [60, 61] else if b = 62 ∧ c = 61 then some [62, 61] else if b = 60 ∧ c = 62 then some [60, 62] else if b ∈ singles then some [b] else none

def oneWord (l : Bs) : One := if 20 < (l.takeWhile isWordB).length then .err 5 0 else .tok (if (l.takeWhile isWordB).map lower ∈ lexWords then 1 else 2) 0 ((l.takeWhile isWordB).map lower) (l.takeWhile isWordB).length
def oneNum (l : Bs) : One := if 9223372036854775807 < numOf (l.takeWhile isDigit) then .err 5 0 else .tok 3 (numOf (l.takeWhile isDigit)) [] (l.takeWhile isDigit).length
def oneText (r : Bs) : One := match textOf r with | none => .err 6 (r.length + 1) | some (o, u) => if 40 < o.length then .err 5 0 else .tok 4 0 o (u + 1)
def onePar (r : Bs) : One := if r.takeWhile isDigit = [] then .err 6 0 else if numOf (r.takeWhile isDigit) < 1 ∨ 4 < numOf (r.takeWhile isDigit) then .err 5 0 else .tok 5 (numOf (r.takeWhile isDigit)) [] ((r.takeWhile isDigit).length + 1)
def oneSign (l : Bs) : One := match signOf l with | none => .err 6 0 | some s => .tok 6 0 s s.length
def one : Bs → One
  | [] => .err 6 0
  | b :: r => if isLetter b then oneWord (b :: r) else if isDigit b then oneNum (b :: r) else if b = 39 then oneText r else if b = 36 then onePar r else oneSign (b :: r)

/-- The tokens; or the first error, and its place. -/
inductive Res where
  | ok (l : List Tok)
  | err (e at_ : Nat)
def Res.push (t : Tok) : Res → Res
  | .ok l => .ok (t :: l)
  | .err e a => .err e a
/-- From a place on, behind cnt tokens, in at most f steps. -/
def lexF : Nat → Bs → Nat → Nat → Res
  | 0, _, _, _ => .ok []
  | _ + 1, [], _, _ => .ok []
  | f + 1, b :: r, pos, cnt => if isBlank b then lexF f r (pos + 1) cnt else
      match one (b :: r) with
      | .err e rel => .err e (pos + rel)
      | .tok kd n s used => if cnt = 400 then .err 5 pos else (lexF f ((b :: r).drop used) (pos + used) (cnt + 1)).push ⟨kd, n, pos, s⟩
def lexL (l : Bs) (pos cnt : Nat) : Res := lexF l.length l pos cnt
def lexS (s : Bs) : Res := if 2000 < s.length then .err 5 0 else lexL s 0 0

theorem textOf_used : ∀ {r o : Bs} {u : Nat}, textOf r = some (o, u) → 1 ≤ u ∧ u ≤ r.length
  | [], o, u, h => by cases h
  | [b], o, u, h => by
    unfold textOf at h
    split at h
    · simp only [Option.some.injEq, Prod.mk.injEq] at h
      obtain ⟨-, rfl⟩ := h
      simp
    · cases h
  | b :: c :: r, o, u, h => by
    unfold textOf at h
    split at h
    · split at h
      · cases e : textOf r with
        | none => rw [e] at h; cases h
        | some x =>
          rw [e] at h
          simp only [Option.map_some, Option.some.injEq, Prod.mk.injEq] at h
          obtain ⟨-, rfl⟩ := h
          have := textOf_used (o := x.1) (u := x.2) (by rw [e])
          simp only [List.length_cons]
          omega
      · simp only [Option.some.injEq, Prod.mk.injEq] at h
        obtain ⟨-, rfl⟩ := h
        simp
    · cases e : textOf (c :: r) with
      | none => rw [e] at h; cases h
      | some x =>
        rw [e] at h
        simp only [Option.map_some, Option.some.injEq, Prod.mk.injEq] at h
        obtain ⟨-, rfl⟩ := h
        have := textOf_used (o := x.1) (u := x.2) (by rw [e])
        simp only [List.length_cons] at this ⊢
        omega
theorem signOf_one (b : UInt8) : signOf [b] = if b ∈ singles then some [b] else none := rfl
theorem signOf_two (b c : UInt8) (r : Bs) : signOf (b :: c :: r) = if b = 60 ∧ c = 61 then some [60, 61] else if b = 62 ∧ c = 61 then some [62, 61] else if b = 60 ∧ c = 62 then some [60, 62] else if b ∈ singles then some [b] else none := rfl
theorem one_cons (b : UInt8) (r : Bs) : one (b :: r) = if isLetter b then oneWord (b :: r) else if isDigit b then oneNum (b :: r) else if b = 39 then oneText r else if b = 36 then onePar r else oneSign (b :: r) := rfl
theorem signOf_len {l s : Bs} (h : signOf l = some s) : 1 ≤ s.length ∧ s.length ≤ l.length := by
  match l, h with
  | [], h => cases h
  | [b], h =>
    rw [signOf_one] at h
    split at h
    · cases h; simp
    · cases h
  | b :: c :: r, h =>
    rw [signOf_two] at h
    split at h
    · cases h; simp
    · split at h
      · cases h; simp
      · split at h
        · cases h; simp
        · split at h
          · cases h; simp
          · cases h
theorem takeWhile_pos {p : UInt8 → Bool} {b : UInt8} {r : Bs} (h : p b = true) : 1 ≤ ((b :: r).takeWhile p).length := by rw [List.takeWhile_cons, h]; simp
theorem takeWhile_le (p : UInt8 → Bool) (l : Bs) : (l.takeWhile p).length ≤ l.length := (List.takeWhile_sublist p).length_le
theorem letter_word {b : UInt8} (h : isLetter b = true) : isWordB b = true := by unfold isWordB; rw [h]; rfl

theorem one_used {l : Bs} {kd n : Nat} {s : Bs} {used : Nat} (h : one l = .tok kd n s used) : 1 ≤ used ∧ used ≤ l.length := by
  cases l with
  | nil => cases h
  | cons b r =>
    rw [one_cons] at h
    split at h
    · rename_i hb
      unfold oneWord at h
      split at h
      · cases h
      · cases h
        exact ⟨takeWhile_pos (letter_word hb), takeWhile_le _ _⟩
    · split at h
      · rename_i hb
        unfold oneNum at h
        split at h
        · cases h
        · cases h
          exact ⟨takeWhile_pos hb, takeWhile_le _ _⟩
      · split at h
        · unfold oneText at h
          cases e : textOf r with
          | none => rw [e] at h; cases h
          | some x =>
            rw [e] at h
            simp only at h
            have := textOf_used (o := x.1) (u := x.2) (by rw [e])
            split at h
            · cases h
            · cases h
              simp only [List.length_cons]
              omega
        · split at h
          · unfold onePar at h
            split at h
            · cases h
            · split at h
              · cases h
              · cases h
                have := takeWhile_le isDigit r
                simp only [List.length_cons]
                omega
          · unfold oneSign at h
            cases e : signOf (b :: r) with
            | none => rw [e] at h; cases h
            | some x =>
              rw [e] at h
              cases h
              exact signOf_len e
theorem one_rel {l : Bs} {e rel : Nat} (h : one l = .err e rel) : (e = 5 ∨ e = 6) ∧ rel ≤ l.length := by
  cases l with
  | nil => cases h; exact ⟨.inr rfl, Nat.zero_le _⟩
  | cons b r =>
    rw [one_cons] at h
    split at h
    · unfold oneWord at h
      split at h
      · cases h; exact ⟨.inl rfl, Nat.zero_le _⟩
      · cases h
    · split at h
      · unfold oneNum at h
        split at h
        · cases h; exact ⟨.inl rfl, Nat.zero_le _⟩
        · cases h
      · split at h
        · unfold oneText at h
          split at h
          · cases h; exact ⟨.inr rfl, by simp⟩
          · split at h
            · cases h; exact ⟨.inl rfl, Nat.zero_le _⟩
            · cases h
        · split at h
          · unfold onePar at h
            split at h
            · cases h; exact ⟨.inr rfl, Nat.zero_le _⟩
            · split at h
              · cases h; exact ⟨.inl rfl, Nat.zero_le _⟩
              · cases h
          · unfold oneSign at h
            split at h
            · cases h; exact ⟨.inr rfl, Nat.zero_le _⟩
            · cases h

/-- More steps than bytes are as good as that many. -/
theorem lexF_more : ∀ (f g : Nat) (l : Bs) (pos cnt : Nat), l.length ≤ f → l.length ≤ g → lexF f l pos cnt = lexF g l pos cnt
  | 0, 0, _, _, _, _, _ => rfl
  | 0, g + 1, l, _, _, h, _ => by
    obtain rfl : l = [] := List.length_eq_zero_iff.1 (by omega)
    rfl
  | f + 1, 0, l, _, _, _, h => by
    obtain rfl : l = [] := List.length_eq_zero_iff.1 (by omega)
    rfl
  | f + 1, g + 1, [], _, _, _, _ => rfl
  | f + 1, g + 1, b :: r, pos, cnt, h1, h2 => by
    simp only [List.length_cons] at h1 h2
    unfold lexF
    split
    · exact lexF_more f g r _ _ (by omega) (by omega)
    · cases e : one (b :: r) with
      | err => rfl
      | tok kd n s used =>
        have hu := one_used e
        simp only
        split
        · rfl
        · rw [lexF_more f g ((b :: r).drop used) _ _ (by rw [List.length_drop, List.length_cons]; omega) (by rw [List.length_drop, List.length_cons]; omega)]
theorem lexL_nil (pos cnt : Nat) : lexL [] pos cnt = .ok [] := rfl
theorem lexL_blank {b : UInt8} {r : Bs} (h : isBlank b = true) (pos cnt : Nat) : lexL (b :: r) pos cnt = lexL r (pos + 1) cnt := by
  unfold lexL
  rw [List.length_cons, lexF, h, if_pos rfl]
theorem lexL_err {b : UInt8} {r : Bs} {e rel : Nat} (h : isBlank b = false) (h1 : one (b :: r) = .err e rel) (pos cnt : Nat) : lexL (b :: r) pos cnt = .err e (pos + rel) := by
  unfold lexL
  rw [List.length_cons, lexF, h, h1]
  rfl
theorem lexL_tok {b : UInt8} {r : Bs} {kd n : Nat} {s : Bs} {used : Nat} (h : isBlank b = false) (h1 : one (b :: r) = .tok kd n s used) (pos cnt : Nat) :
    lexL (b :: r) pos cnt = if cnt = 400 then .err 5 pos else (lexL ((b :: r).drop used) (pos + used) (cnt + 1)).push ⟨kd, n, pos, s⟩ := by
  have hu := one_used h1
  unfold lexL
  rw [List.length_cons, lexF, h, h1]
  simp only [Bool.false_eq_true, if_false]
  split
  · rfl
  · rw [lexF_more _ ((b :: r).drop used).length _ _ _ (by rw [List.length_drop, List.length_cons]; omega) (Nat.le_refl _)]

/-- By cases along the text: nothing left; a blank; an error; a token. -/
theorem lex_ind {P : Bs → Prop} (h0 : P []) (h1 : ∀ b r, isBlank b = true → P r → P (b :: r)) (h2 : ∀ b r e rel, isBlank b = false → one (b :: r) = .err e rel → P (b :: r))
    (h3 : ∀ b r kd n s used, isBlank b = false → one (b :: r) = .tok kd n s used → P ((b :: r).drop used) → P (b :: r)) : ∀ l, P l := by
  have H : ∀ (k : Nat) (l : Bs), l.length ≤ k → P l := by
    intro k
    induction k with
    | zero =>
      intro l hl
      obtain rfl : l = [] := List.length_eq_zero_iff.1 (by omega)
      exact h0
    | succ k ih =>
      intro l hl
      cases l with
      | nil => exact h0
      | cons b r =>
        simp only [List.length_cons] at hl
        cases hb : isBlank b with
        | true => exact h1 b r hb (ih r (by omega))
        | false =>
          cases e : one (b :: r) with
          | err e' rel => exact h2 b r e' rel hb e
          | tok kd n s used =>
            have hu := one_used e
            exact h3 b r kd n s used hb e (ih _ (by rw [List.length_drop, List.length_cons]; omega))
  exact fun l => H l.length l (Nat.le_refl _)

end Go.Proofs.YtgmmbfcjjgehoaaGreatDoor
