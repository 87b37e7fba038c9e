/- The tokens of a text: in great letters; a text between quotes. No program is walked here. -/
import Derived.Test.YtgmmbfcjjgehoaaGreatDoorLxT
namespace Go.Proofs.YtgmmbfcjjgehoaaGreatDoor
set_option maxRecDepth 100000

theorem all_bytes {P : UInt8 → Prop} (h : ∀ n, n < 256 → P (UInt8.ofNat n)) (b : UInt8) : P b := by
  have := h b.toNat b.toNat_lt
  rwa [UInt8.ofNat_toNat] at this

/-- In great letters. -/
def upper (b : UInt8) : UInt8 := if 97 ≤ b ∧ b ≤ 122 then b - 32 else b
theorem upper_blank (b : UInt8) : isBlank (upper b) = isBlank b := all_bytes (P := fun b => isBlank (upper b) = isBlank b) (by decide) b
theorem upper_letter (b : UInt8) : isLetter (upper b) = isLetter b := all_bytes (P := fun b => isLetter (upper b) = isLetter b) (by decide) b
theorem upper_digit (b : UInt8) : isDigit (upper b) = isDigit b := all_bytes (P := fun b => isDigit (upper b) = isDigit b) (by decide) b
theorem upper_wordB (b : UInt8) : isWordB (upper b) = isWordB b := all_bytes (P := fun b => isWordB (upper b) = isWordB b) (by decide) b
theorem upper_lower (b : UInt8) : lower (upper b) = lower b := all_bytes (P := fun b => lower (upper b) = lower b) (by decide) b
theorem upper_same {b : UInt8} (h : isLetter b = false) : upper b = b := all_bytes (P := fun b => isLetter b = false → upper b = b) (by decide) b h
theorem upper_eq {b c : UInt8} (hc : isLetter c = false) : upper b = c ↔ b = c := by
  constructor
  · intro h
    have : isLetter b = false := by rw [← upper_letter, h]; exact hc
    rw [← h, upper_same this]
  · rintro rfl
    exact upper_same hc
theorem digit_letter {b : UInt8} (h : isDigit b = true) : isLetter b = false := all_bytes (P := fun b => isDigit b = true → isLetter b = false) (by decide) b h
theorem single_letter {b : UInt8} (h : b ∈ singles) : isLetter b = false := all_bytes (P := fun b => b ∈ singles → isLetter b = false) (by decide) b h
theorem upper_singles (b : UInt8) : upper b ∈ singles ↔ b ∈ singles := by
  constructor
  · intro h
    have : isLetter b = false := by rw [← upper_letter]; exact single_letter h
    rwa [upper_same this] at h
  · intro h
    rwa [upper_same (single_letter h)]

theorem takeWhile_upper {p : UInt8 → Bool} (hp : ∀ b, p (upper b) = p b) (l : Bs) : (l.map upper).takeWhile p = (l.takeWhile p).map upper := by
  induction l with
  | nil => rfl
  | cons a l ih =>
    rw [List.map_cons, List.takeWhile_cons, List.takeWhile_cons, hp, ih]
    cases p a <;> rfl
theorem digits_upper (l : Bs) : (l.map upper).takeWhile isDigit = l.takeWhile isDigit := by
  induction l with
  | nil => rfl
  | cons a l ih =>
    rw [List.map_cons, List.takeWhile_cons, List.takeWhile_cons, upper_digit, ih]
    cases h : isDigit a with
    | false => rfl
    | true => simp only [if_true]; rw [upper_same (digit_letter h)]
theorem oneWord_upper (l : Bs) : oneWord (l.map upper) = oneWord l := by
  unfold oneWord
  rw [takeWhile_upper upper_wordB, List.length_map, List.map_map, show lower ∘ upper = lower from funext upper_lower]
theorem oneNum_upper (l : Bs) : oneNum (l.map upper) = oneNum l := by unfold oneNum; rw [digits_upper]
theorem onePar_upper (l : Bs) : onePar (l.map upper) = onePar l := by unfold onePar; rw [digits_upper]
theorem signOf_upper (b : UInt8) (r : Bs) : signOf ((b :: r).map upper) = signOf (b :: r) := by
  have e : (if upper b ∈ singles then some [upper b] else none) = (if b ∈ singles then some [b] else none) := by
    by_cases h : b ∈ singles
    · rw [if_pos h, if_pos ((upper_singles b).2 h), upper_same (single_letter h)]
    · rw [if_neg h, if_neg (fun h' => h ((upper_singles b).1 h'))]
  cases r with
  | nil => rw [List.map_cons, List.map_nil, signOf_one, signOf_one, e]
  | cons c r =>
    rw [List.map_cons, List.map_cons, signOf_two, signOf_two, e]
    simp only [upper_eq (show isLetter 60 = false by decide), upper_eq (show isLetter 61 = false by decide), upper_eq (show isLetter 62 = false by decide)]
theorem one_upper {b : UInt8} {r : Bs} (hb : b ≠ 39) : one ((b :: r).map upper) = one (b :: r) := by
  have e1 := oneWord_upper (b :: r)
  have e2 := oneNum_upper (b :: r)
  have e3 := onePar_upper r
  have e4 : oneSign ((b :: r).map upper) = oneSign (b :: r) := by unfold oneSign; rw [signOf_upper]
  rw [List.map_cons] at e1 e2 e4 ⊢
  rw [one_cons, one_cons, upper_letter, upper_digit, e1, e2, e3, e4]
  simp only [upper_eq (show isLetter 39 = false by decide), upper_eq (show isLetter 36 = false by decide), if_neg hb]
/-- Without quotes great letters change nothing. -/
theorem lexL_upper (l : Bs) : (39 : UInt8) ∉ l → ∀ pos cnt, lexL (l.map upper) pos cnt = lexL l pos cnt := by
  refine lex_ind (P := fun l => (39 : UInt8) ∉ l → ∀ pos cnt, lexL (l.map upper) pos cnt = lexL l pos cnt) (fun _ _ _ => rfl) (fun b r h ih hq pos cnt => ?_) (fun b r e rel h h1 hq pos cnt => ?_) (fun b r kd n s used h h1 ih hq pos cnt => ?_) l
  · rw [List.map_cons, lexL_blank (by rw [upper_blank]; exact h), lexL_blank h]
    exact ih (fun hm => hq (List.mem_cons_of_mem _ hm)) _ _
  · have h2 := (one_upper (r := r) (fun e => hq (by rw [e]; exact List.mem_cons_self))).trans h1
    rw [List.map_cons] at h2 ⊢
    rw [lexL_err (by rw [upper_blank]; exact h) h2, lexL_err h h1]
  · have h2 := (one_upper (r := r) (fun e => hq (by rw [e]; exact List.mem_cons_self))).trans h1
    rw [List.map_cons] at h2 ⊢
    rw [lexL_tok (by rw [upper_blank]; exact h) h2, lexL_tok h h1, ← List.map_cons, ← List.map_drop, ih (fun hm => hq (List.mem_of_mem_drop hm))]

/-- Each quote twice. -/
def dbl (s : Bs) : Bs := s.flatMap fun b => if b = 39 then [39, 39] else [b]
theorem textOf_dbl (s : Bs) : textOf (dbl s ++ [39]) = some (s, (dbl s).length + 1) := by
  induction s with
  | nil => rfl
  | cons b s ih =>
    unfold dbl at ih ⊢
    rw [List.flatMap_cons]
    by_cases hb : b = 39
    · rw [if_pos hb, List.append_assoc, List.cons_append, List.cons_append, List.nil_append, textOf_two, if_pos rfl, if_pos rfl, ih, hb]
      simp
    · rw [if_neg hb, List.append_assoc, List.singleton_append, textOf_step hb, ih]
      simp
theorem lexL_quoted (s : Bs) : lexL (39 :: dbl s ++ [39]) 0 0 = if 40 < s.length then .err 5 0 else .ok [⟨4, 0, 0, s⟩] := by
  have h1 : one (39 :: (dbl s ++ [39])) = if 40 < s.length then .err 5 0 else .tok 4 0 s ((dbl s).length + 1 + 1) := by
    rw [one_cons, if_neg (by decide), if_neg (by decide), if_pos rfl]
    unfold oneText
    rw [textOf_dbl]
  rw [List.cons_append]
  by_cases h : 40 < s.length
  · rw [if_pos h] at h1 ⊢
    rw [lexL_err (by decide) h1]
  · rw [if_neg h] at h1 ⊢
    rw [lexL_tok (by decide) h1, if_neg (by omega), List.drop_eq_nil_of_le (by simp), lexL_nil]
    rfl

end Go.Proofs.YtgmmbfcjjgehoaaGreatDoor
