/- The tokens of a text: what stands ahead of it and behind it; where they stand. No program is walked here. -/
import Derived.Test.YtgmmbfcjjgehoaaGreatDoorLxP
namespace Go.Proofs.YtgmmbfcjjgehoaaGreatDoor

theorem takeWhile_stop {p : UInt8 → Bool} {c : UInt8} (hc : p c = false) (l t : Bs) : (l ++ c :: t).takeWhile p = l.takeWhile p := by
  induction l with
  | nil => rw [List.nil_append, List.takeWhile_cons, hc]; rfl
  | cons a l ih => rw [List.cons_append, List.takeWhile_cons, List.takeWhile_cons, ih]

/-- A byte at which a token ends. -/
structure Stop (c : UInt8) : Prop where
  word : isWordB c = false
  digit : isDigit c = false
  quote : c ≠ 39
  eq_ : c ≠ 61
  gt : c ≠ 62
theorem blank_cases {c : UInt8} (h : isBlank c = true) : c = 32 ∨ c = 9 ∨ c = 10 ∨ c = 13 := by
  unfold isBlank at h
  simp only [Bool.or_eq_true, beq_iff_eq] at h
  rcases h with ((h | h) | h) | h
  · exact .inl h
  · exact .inr (.inl h)
  · exact .inr (.inr (.inl h))
  · exact .inr (.inr (.inr h))
theorem Stop.blank {c : UInt8} (h : isBlank c = true) : Stop c := by
  rcases blank_cases h with rfl | rfl | rfl | rfl <;> exact ⟨by decide, by decide, by decide, by decide, by decide⟩
theorem blank_quote {c : UInt8} (h : isBlank c = true) : c ≠ 39 := (Stop.blank h).quote

theorem textOf_nil : textOf [] = none := rfl
theorem textOf_one (b : UInt8) : textOf [b] = if b = 39 then some ([], 1) else none := rfl
theorem textOf_two (b c : UInt8) (r : Bs) : textOf (b :: c :: r) = if b = 39 then (if c = 39 then (textOf r).map fun x => (39 :: x.1, x.2 + 2) else some ([], 1)) else (textOf (c :: r)).map fun x => (b :: x.1, x.2 + 1) := by rw [textOf]
theorem textOf_step {b : UInt8} (h : b ≠ 39) (l : Bs) : textOf (b :: l) = (textOf l).map fun x => (b :: x.1, x.2 + 1) := by
  cases l with
  | nil => rw [textOf_one, if_neg h]; rfl
  | cons c r => rw [textOf_two, if_neg h]
theorem textOf_free : ∀ (l : Bs), (39 : UInt8) ∉ l → textOf l = none
  | [], _ => rfl
  | b :: l, h => by
    rw [textOf_step (fun e => h (by rw [e]; exact List.mem_cons_self)), textOf_free l (fun e => h (List.mem_cons_of_mem _ e))]
    rfl
theorem textOf_stop {c : UInt8} (hc : c ≠ 39) (t : Bs) : ∀ (r o : Bs) (u : Nat), textOf r = some (o, u) → textOf (r ++ c :: t) = some (o, u)
  | [], o, u, h => by cases h
  | [b], o, u, h => by
    rw [textOf_one] at h
    split at h
    · rename_i hb
      cases h
      rw [List.singleton_append, textOf_two, if_pos hb, if_neg hc]
    · cases h
  | b :: d :: r, o, u, h => by
    by_cases hb : b = 39
    · rw [textOf_two, if_pos hb] at h
      rw [List.cons_append, List.cons_append, textOf_two, if_pos hb]
      split at h
      · rename_i hd
        rw [if_pos hd]
        cases e : textOf r with
        | none => rw [e] at h; cases h
        | some x =>
          rw [e] at h
          rw [textOf_stop hc t r x.1 x.2 (by rw [e])]
          exact h
      · rename_i hd
        rw [if_neg hd]
        exact h
    · rw [textOf_step hb] at h
      rw [List.cons_append, textOf_step hb]
      cases e : textOf (d :: r) with
      | none => rw [e] at h; cases h
      | some x =>
        rw [e] at h
        rw [textOf_stop hc t (d :: r) x.1 x.2 (by rw [e])]
        exact h
theorem textOf_none {t : Bs} (ht : (39 : UInt8) ∉ t) : ∀ (r : Bs), textOf r = none → textOf (r ++ t) = none
  | [], _ => textOf_free t ht
  | [b], h => by
    rw [textOf_one] at h
    split at h
    · cases h
    · rename_i hb
      rw [List.singleton_append, textOf_step hb, textOf_free t ht]
      rfl
  | b :: d :: r, h => by
    by_cases hb : b = 39
    · rw [textOf_two, if_pos hb] at h
      rw [List.cons_append, List.cons_append, textOf_two, if_pos hb]
      split at h
      · rename_i hd
        rw [if_pos hd]
        cases e : textOf r with
        | none => rw [textOf_none ht r e]; rfl
        | some x => rw [e] at h; cases h
      · cases h
    · rw [textOf_step hb] at h
      rw [List.cons_append, textOf_step hb]
      cases e : textOf (d :: r) with
      | none => rw [textOf_none ht (d :: r) e]; rfl
      | some x => rw [e] at h; cases h

theorem signOf_stop {c : UInt8} (h1 : c ≠ 61) (h2 : c ≠ 62) (b : UInt8) (r t : Bs) : signOf (b :: r ++ c :: t) = signOf (b :: r) := by
  cases r with
  | nil => rw [List.singleton_append, signOf_two, signOf_one, if_neg (fun h => h1 h.2), if_neg (fun h => h1 h.2), if_neg (fun h => h2 h.2)]
  | cons d r => rw [List.cons_append, List.cons_append, signOf_two, signOf_two]

theorem oneWord_stop {c : UInt8} (h : Stop c) (l t : Bs) : oneWord (l ++ c :: t) = oneWord l := by unfold oneWord; rw [takeWhile_stop h.word]
theorem oneNum_stop {c : UInt8} (h : Stop c) (l t : Bs) : oneNum (l ++ c :: t) = oneNum l := by unfold oneNum; rw [takeWhile_stop h.digit]
theorem onePar_stop {c : UInt8} (h : Stop c) (l t : Bs) : onePar (l ++ c :: t) = onePar l := by unfold onePar; rw [takeWhile_stop h.digit]
theorem oneSign_stop {c : UInt8} (h : Stop c) (b : UInt8) (r t : Bs) : oneSign (b :: r ++ c :: t) = oneSign (b :: r) := by unfold oneSign; rw [signOf_stop h.eq_ h.gt]

/-- A token that ends ahead of a stop is one token still. -/
theorem one_tok {b c : UInt8} {r t : Bs} {kd n : Nat} {s : Bs} {used : Nat} (hc : Stop c) (h : one (b :: r) = .tok kd n s used) : one (b :: r ++ c :: t) = .tok kd n s used := by
  rw [one_cons] at h
  rw [List.cons_append, one_cons]
  split at h
  · rename_i h1; rw [if_pos h1, ← List.cons_append, oneWord_stop hc]; exact h
  · rename_i h1
    rw [if_neg h1]
    split at h
    · rename_i h2; rw [if_pos h2, ← List.cons_append, oneNum_stop hc]; exact h
    · rename_i h2
      rw [if_neg h2]
      split at h
      · rename_i h3
        rw [if_pos h3]
        unfold oneText at h ⊢
        cases e : textOf r with
        | none => rw [e] at h; cases h
        | some x =>
          rw [e] at h
          rw [textOf_stop hc.quote t r x.1 x.2 (by rw [e])]
          exact h
      · rename_i h3
        rw [if_neg h3]
        split at h
        · rename_i h4; rw [if_pos h4, onePar_stop hc]; exact h
        · rename_i h4; rw [if_neg h4, ← List.cons_append, oneSign_stop hc]; exact h
/-- An error stays one; a text without an end has none still, if no quote follows. -/
theorem one_err {b c : UInt8} {r t : Bs} {e rel : Nat} (hc : Stop c) (ht : (39 : UInt8) ∉ t) (h : one (b :: r) = .err e rel) : one (b :: r ++ c :: t) = .err e rel ∨ (rel = r.length + 1 ∧ one (b :: r ++ c :: t) = .err e (rel + (t.length + 1))) := by
  rw [one_cons] at h
  rw [List.cons_append, one_cons]
  split at h
  · rename_i h1; rw [if_pos h1, ← List.cons_append, oneWord_stop hc]; exact .inl h
  · rename_i h1
    rw [if_neg h1]
    split at h
    · rename_i h2; rw [if_pos h2, ← List.cons_append, oneNum_stop hc]; exact .inl h
    · rename_i h2
      rw [if_neg h2]
      split at h
      · rename_i h3
        rw [if_pos h3]
        unfold oneText at h ⊢
        cases e' : textOf r with
        | none =>
          rw [e'] at h
          cases h
          right
          rw [textOf_none (t := c :: t) (fun hm => by
            rcases List.mem_cons.1 hm with h | h
            · exact hc.quote h.symm
            · exact ht h) r e']
          refine ⟨rfl, ?_⟩
          simp only [One.err.injEq, true_and, List.length_append, List.length_cons]
          omega
        | some x =>
          rw [e'] at h
          rw [textOf_stop hc.quote t r x.1 x.2 (by rw [e'])]
          exact .inl h
      · rename_i h3
        rw [if_neg h3]
        split at h
        · rename_i h4; rw [if_pos h4, onePar_stop hc]; exact .inl h
        · rename_i h4; rw [if_neg h4, ← List.cons_append, oneSign_stop hc]; exact .inl h

/-- All m places later. -/
def Tok.shift (m : Nat) (t : Tok) : Tok := ⟨t.kd, t.n, t.at_ + m, t.s⟩
def Res.shift (m : Nat) : Res → Res
  | .ok l => .ok (l.map (Tok.shift m))
  | .err e a => .err e (a + m)
theorem push_shift (m : Nat) (t : Tok) (r : Res) : (r.push t).shift m = (r.shift m).push (t.shift m) := by cases r <;> rfl
theorem lexL_shift (m : Nat) (l : Bs) : ∀ pos cnt, lexL l (pos + m) cnt = (lexL l pos cnt).shift m := by
  refine lex_ind (P := fun l => ∀ pos cnt, lexL l (pos + m) cnt = (lexL l pos cnt).shift m) (fun _ _ => rfl) (fun b r h ih pos cnt => ?_) (fun b r e rel h h1 pos cnt => ?_) (fun b r kd n s used h h1 ih pos cnt => ?_) l
  · rw [lexL_blank h, lexL_blank h, show pos + m + 1 = pos + 1 + m by omega]
    exact ih _ _
  · rw [lexL_err h h1, lexL_err h h1, show pos + m + rel = pos + rel + m by omega]
    rfl
  · rw [lexL_tok h h1, lexL_tok h h1]
    split
    · rfl
    · rw [show pos + m + used = pos + used + m by omega, ih, push_shift]
      rfl
theorem lexL_ahead : ∀ (bl : Bs) (l : Bs) (pos cnt : Nat), (∀ b ∈ bl, isBlank b = true) → lexL (bl ++ l) pos cnt = lexL l (pos + bl.length) cnt
  | [], l, pos, cnt, _ => rfl
  | b :: bl, l, pos, cnt, h => by
    rw [List.cons_append, lexL_blank (h b List.mem_cons_self), lexL_ahead bl l (pos + 1) cnt (fun b hb => h b (List.mem_cons_of_mem _ hb)), List.length_cons, show pos + 1 + bl.length = pos + (bl.length + 1) by omega]
theorem lexL_only (bl : Bs) (pos cnt : Nat) (h : ∀ b ∈ bl, isBlank b = true) : lexL bl pos cnt = .ok [] := by
  have := lexL_ahead bl [] pos cnt h
  rw [List.append_nil] at this
  rw [this]
  rfl

theorem drop_app {b : UInt8} {r : Bs} {used : Nat} (h : used ≤ (b :: r).length) (t : Bs) : (b :: r ++ t).drop used = (b :: r).drop used ++ t := List.drop_append_of_le_length h
/-- With blanks behind: the same tokens; or the same error, at its place or at the end. -/
theorem lexL_behind {c : UInt8} {bl : Bs} (hc : isBlank c = true) (hb : ∀ b ∈ bl, isBlank b = true) (l : Bs) : ∀ pos cnt, (∀ L, lexL l pos cnt = .ok L → lexL (l ++ c :: bl) pos cnt = .ok L) ∧
    (∀ e a, lexL l pos cnt = .err e a → lexL (l ++ c :: bl) pos cnt = .err e a ∨ (a = pos + l.length ∧ lexL (l ++ c :: bl) pos cnt = .err e (a + (bl.length + 1)))) := by
  have hs := Stop.blank hc
  have hq : (39 : UInt8) ∉ bl := fun h => blank_quote (hb 39 h) rfl
  have hall : ∀ b ∈ c :: bl, isBlank b = true := fun b hm => by
    rcases List.mem_cons.1 hm with rfl | h
    · exact hc
    · exact hb b h
  refine lex_ind (P := fun l => ∀ pos cnt, (∀ L, lexL l pos cnt = .ok L → lexL (l ++ c :: bl) pos cnt = .ok L) ∧ (∀ e a, lexL l pos cnt = .err e a → lexL (l ++ c :: bl) pos cnt = .err e a ∨ (a = pos + l.length ∧ lexL (l ++ c :: bl) pos cnt = .err e (a + (bl.length + 1))))) (fun pos cnt => ?_) (fun b r h ih pos cnt => ?_) (fun b r e rel h h1 pos cnt => ?_) (fun b r kd n s used h h1 ih pos cnt => ?_) l
  · refine ⟨fun L hL => ?_, fun e a he => by cases he⟩
    rw [List.nil_append, lexL_only _ _ _ hall]
    exact hL
  · rw [lexL_blank h, List.cons_append, lexL_blank h]
    refine ⟨(ih (pos + 1) cnt).1, fun e a he => ?_⟩
    rcases (ih (pos + 1) cnt).2 e a he with h2 | ⟨h2, h3⟩
    · exact .inl h2
    · exact .inr ⟨by rw [h2, List.length_cons]; omega, h3⟩
  · rw [lexL_err h h1]
    refine ⟨fun L hL => (by cases hL), fun e' a he => ?_⟩
    cases he
    rcases one_err (t := bl) hs hq h1 with h2 | ⟨h2, h3⟩
    · left; rw [List.cons_append] at h2 ⊢; exact lexL_err h h2 pos cnt
    · right
      rw [List.cons_append] at h3 ⊢
      refine ⟨by rw [h2, List.length_cons], ?_⟩
      rw [lexL_err h h3, Nat.add_assoc]
  · have hu := one_used h1
    have h2 := one_tok (t := bl) hs h1
    rw [lexL_tok h h1]
    rw [List.cons_append] at h2 ⊢
    rw [lexL_tok h h2, ← List.cons_append, drop_app hu.2]
    by_cases h400 : cnt = 400
    · rw [if_pos h400, if_pos h400]
      exact ⟨fun L hL => hL, fun e a he => .inl he⟩
    · rw [if_neg h400, if_neg h400]
      obtain ⟨i1, i2⟩ := ih (pos + used) (cnt + 1)
      cases hr : lexL ((b :: r).drop used) (pos + used) (cnt + 1) with
      | ok L' => rw [i1 L' hr]; exact ⟨fun L hL => hL, fun e a he => .inl he⟩
      | err e' a' =>
        refine ⟨fun L hL => (by cases hL), fun e a he => ?_⟩
        cases he
        rcases i2 e' a' hr with h3 | ⟨h3, h4⟩
        · rw [h3]; exact .inl rfl
        · rw [h4]
          refine .inr ⟨?_, rfl⟩
          rw [h3, List.length_drop]
          omega

end Go.Proofs.YtgmmbfcjjgehoaaGreatDoor
