/- The tokens of two texts with a blank between; how many there may be; where they stand; great letters; a text between quotes. No program is walked here. -/
import Derived.Test.YtgmmbfcjjgehoaaGreatDoorLxQ
namespace Go.Proofs.YtgmmbfcjjgehoaaGreatDoor

def Res.pre (A : List Tok) : Res → Res
  | .ok l => .ok (A ++ l)
  | .err e a => .err e a
theorem pre_push (t : Tok) (A : List Tok) (r : Res) : (r.pre A).push t = r.pre (t :: A) := by cases r <;> rfl
theorem pre_nil (r : Res) : r.pre [] = r := by cases r <;> rfl
theorem push_ok {r : Res} {t : Tok} {A : List Tok} (h : r.push t = .ok A) : ∃ B, r = .ok B ∧ A = t :: B := by
  cases r with
  | ok l => cases h; exact ⟨l, rfl, rfl⟩
  | err e a => cases h
/-- A text that may be read, a blank, and another text. -/
theorem lexL_then {c : UInt8} (hc : isBlank c = true) (t : Bs) (l : Bs) : ∀ pos cnt A, lexL l pos cnt = .ok A → lexL (l ++ c :: t) pos cnt = (lexL t (pos + l.length + 1) (cnt + A.length)).pre A := by
  have hs := Stop.blank hc
  refine lex_ind (P := fun l => ∀ pos cnt A, lexL l pos cnt = .ok A → lexL (l ++ c :: t) pos cnt = (lexL t (pos + l.length + 1) (cnt + A.length)).pre A) (fun pos cnt A h => ?_) (fun b r h ih pos cnt A hA => ?_) (fun b r e rel h h1 pos cnt A hA => ?_) (fun b r kd n s used h h1 ih pos cnt A hA => ?_) l
  · cases h
    rw [List.nil_append, lexL_blank hc, pre_nil]
    rfl
  · rw [lexL_blank h] at hA
    rw [List.cons_append, lexL_blank h, ih _ _ _ hA, List.length_cons, show pos + 1 + r.length + 1 = pos + (r.length + 1) + 1 by omega]
  · rw [lexL_err h h1] at hA
    cases hA
  · have hu := one_used h1
    have h2 := one_tok (t := t) hs h1
    rw [lexL_tok h h1] at hA
    rw [List.cons_append] at h2 ⊢
    rw [lexL_tok h h2, ← List.cons_append, drop_app hu.2]
    split at hA
    · cases hA
    · rename_i h400
      rw [if_neg h400]
      obtain ⟨B, hB, rfl⟩ := push_ok hA
      rw [ih _ _ _ hB, pre_push, List.length_drop, show pos + used + ((b :: r).length - used) + 1 = pos + (b :: r).length + 1 by omega, show cnt + 1 + B.length = cnt + (B.length + 1) by omega]
      rfl

/-- Behind more tokens: the same, or too many. -/
theorem lexL_count (l : Bs) : ∀ pos c0 cnt B, c0 ≤ cnt → cnt ≤ 400 → lexL l pos c0 = .ok B → (cnt + B.length ≤ 400 → lexL l pos cnt = .ok B) ∧ (400 < cnt + B.length → ∃ a, lexL l pos cnt = .err 5 a) := by
  refine lex_ind (P := fun l => ∀ pos c0 cnt B, c0 ≤ cnt → cnt ≤ 400 → lexL l pos c0 = .ok B → (cnt + B.length ≤ 400 → lexL l pos cnt = .ok B) ∧ (400 < cnt + B.length → ∃ a, lexL l pos cnt = .err 5 a)) (fun pos c0 cnt B h1 h2 hB => ?_) (fun b r h ih pos c0 cnt B h1 h2 hB => ?_) (fun b r e rel h h1 pos c0 cnt B _ _ hB => ?_) (fun b r kd n s used h h1 ih pos c0 cnt B h2 h3 hB => ?_) l
  · cases hB
    exact ⟨fun _ => rfl, fun h => by simp at h; omega⟩
  · rw [lexL_blank h] at hB ⊢
    exact ih _ _ _ _ h1 h2 hB
  · rw [lexL_err h h1] at hB
    cases hB
  · rw [lexL_tok h h1] at hB ⊢
    split at hB
    · cases hB
    · obtain ⟨B', hB', rfl⟩ := push_ok hB
      by_cases h400 : cnt = 400
      · rw [if_pos h400]
        exact ⟨fun hh => by simp at hh; omega, fun _ => ⟨_, rfl⟩⟩
      · rw [if_neg h400]
        obtain ⟨i1, i2⟩ := ih (pos + used) (c0 + 1) (cnt + 1) B' (by omega) (by omega) hB'
        refine ⟨fun hh => ?_, fun hh => ?_⟩
        · rw [i1 (by simp at hh; omega)]
          rfl
        · obtain ⟨a, ha⟩ := i2 (by simp at hh; omega)
          exact ⟨a, by rw [ha]; rfl⟩
theorem lexL_most (l : Bs) : ∀ pos cnt B, cnt ≤ 400 → lexL l pos cnt = .ok B → cnt + B.length ≤ 400 := by
  refine lex_ind (P := fun l => ∀ pos cnt B, cnt ≤ 400 → lexL l pos cnt = .ok B → cnt + B.length ≤ 400) (fun pos cnt B h hB => ?_) (fun b r h ih pos cnt B h1 hB => ?_) (fun b r e rel h h1 pos cnt B _ hB => ?_) (fun b r kd n s used h h1 ih pos cnt B h2 hB => ?_) l
  · cases hB; simpa using h
  · rw [lexL_blank h] at hB
    exact ih _ _ _ h1 hB
  · rw [lexL_err h h1] at hB
    cases hB
  · rw [lexL_tok h h1] at hB
    split at hB
    · cases hB
    · obtain ⟨B', hB', rfl⟩ := push_ok hB
      have := ih _ _ _ (by omega) hB'
      simp only [List.length_cons]
      omega
/-- An error is one of two, and within the text or at its end. -/
theorem lexL_errs (l : Bs) : ∀ pos cnt e a, lexL l pos cnt = .err e a → (e = 5 ∨ e = 6) ∧ pos ≤ a ∧ a ≤ pos + l.length := by
  refine lex_ind (P := fun l => ∀ pos cnt e a, lexL l pos cnt = .err e a → (e = 5 ∨ e = 6) ∧ pos ≤ a ∧ a ≤ pos + l.length) (fun pos cnt e a h => by cases h) (fun b r h ih pos cnt e a he => ?_) (fun b r e' rel h h1 pos cnt e a he => ?_) (fun b r kd n s used h h1 ih pos cnt e a he => ?_) l
  · rw [lexL_blank h] at he
    obtain ⟨i1, i2, i3⟩ := ih _ _ _ _ he
    exact ⟨i1, by omega, by rw [List.length_cons]; omega⟩
  · rw [lexL_err h h1] at he
    cases he
    have := one_rel h1
    exact ⟨this.1, by omega, by omega⟩
  · have hu := one_used h1
    rw [lexL_tok h h1] at he
    split at he
    · cases he
      exact ⟨.inl rfl, Nat.le_refl _, Nat.le_add_right _ _⟩
    · cases hr : lexL ((b :: r).drop used) (pos + used) (cnt + 1) with
      | ok L => rw [hr] at he; cases he
      | err e' a' =>
        rw [hr] at he
        cases he
        obtain ⟨i1, i2, i3⟩ := ih _ _ _ _ hr
        rw [List.length_drop] at i3
        exact ⟨i1, by omega, by omega⟩

/-- Where the tokens stand: each at a byte that is no blank, one behind the other. -/
theorem lexL_places (l : Bs) : ∀ pos cnt L, lexL l pos cnt = .ok L → (∀ t ∈ L, ∃ k b, t.at_ = pos + k ∧ l[k]? = some b ∧ isBlank b = false) ∧ L.Pairwise (fun t u => t.at_ < u.at_) := by
  refine lex_ind (P := fun l => ∀ pos cnt L, lexL l pos cnt = .ok L → (∀ t ∈ L, ∃ k b, t.at_ = pos + k ∧ l[k]? = some b ∧ isBlank b = false) ∧ L.Pairwise (fun t u => t.at_ < u.at_)) (fun pos cnt L h => ?_) (fun b r h ih pos cnt L hL => ?_) (fun b r e rel h h1 pos cnt L hL => ?_) (fun b r kd n s used h h1 ih pos cnt L hL => ?_) l
  · cases h
    exact ⟨fun t ht => (by cases ht), List.Pairwise.nil⟩
  · rw [lexL_blank h] at hL
    obtain ⟨i1, i2⟩ := ih _ _ _ hL
    refine ⟨fun t ht => ?_, i2⟩
    obtain ⟨k, b', k1, k2, k3⟩ := i1 t ht
    exact ⟨k + 1, b', by omega, by simpa using k2, k3⟩
  · rw [lexL_err h h1] at hL
    cases hL
  · have hu := one_used h1
    rw [lexL_tok h h1] at hL
    split at hL
    · cases hL
    · obtain ⟨B, hB, rfl⟩ := push_ok hL
      obtain ⟨i1, i2⟩ := ih _ _ _ hB
      have later : ∀ t ∈ B, ∃ k b', t.at_ = pos + (used + k) ∧ (b :: r)[used + k]? = some b' ∧ isBlank b' = false := fun t ht => by
        obtain ⟨k, b', k1, k2, k3⟩ := i1 t ht
        rw [List.getElem?_drop] at k2
        exact ⟨k, b', by omega, k2, k3⟩
      refine ⟨fun t ht => ?_, List.Pairwise.cons (fun t ht => ?_) i2⟩
      · rcases List.mem_cons.1 ht with rfl | ht
        · exact ⟨0, b, rfl, rfl, h⟩
        · obtain ⟨k, b', k1, k2, k3⟩ := later t ht
          exact ⟨used + k, b', k1, k2, k3⟩
      · obtain ⟨k, b', k1, k2, k3⟩ := later t ht
        show pos < t.at_
        omega
/-- How many blanks stand ahead. -/
def ahead : Bs → Nat
  | [] => 0
  | b :: r => if isBlank b then ahead r + 1 else 0
theorem lexL_first (l : Bs) : ∀ pos cnt L, lexL l pos cnt = .ok L → (L = [] ↔ ahead l = l.length) ∧ ∀ t B, L = t :: B → t.at_ = pos + ahead l := by
  refine lex_ind (P := fun l => ∀ pos cnt L, lexL l pos cnt = .ok L → (L = [] ↔ ahead l = l.length) ∧ ∀ t B, L = t :: B → t.at_ = pos + ahead l) (fun pos cnt L h => ?_) (fun b r h ih pos cnt L hL => ?_) (fun b r e rel h h1 pos cnt L hL => ?_) (fun b r kd n s used h h1 ih pos cnt L hL => ?_) l
  · cases h
    exact ⟨⟨fun _ => rfl, fun _ => rfl⟩, fun t B h => by cases h⟩
  · rw [lexL_blank h] at hL
    obtain ⟨i1, i2⟩ := ih _ _ _ hL
    have e : ahead (b :: r) = ahead r + 1 := by unfold ahead; rw [if_pos h]; cases r <;> rfl
    rw [e, List.length_cons]
    refine ⟨⟨fun h => by rw [i1.1 h], fun h => i1.2 (by omega)⟩, fun t B hB => ?_⟩
    rw [i2 t B hB]
    omega
  · rw [lexL_err h h1] at hL
    cases hL
  · have e : ahead (b :: r) = 0 := by unfold ahead; rw [h]; rfl
    rw [lexL_tok h h1] at hL
    split at hL
    · cases hL
    · obtain ⟨B, hB, rfl⟩ := push_ok hL
      rw [e, List.length_cons]
      refine ⟨⟨fun h => (by cases h), fun h => by omega⟩, fun t C hC => ?_⟩
      cases hC
      rfl

end Go.Proofs.YtgmmbfcjjgehoaaGreatDoor
