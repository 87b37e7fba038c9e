/- The same tokens for a text of another length: the same query, or the same error; texts put together. No program is walked here. A condition in brackets; two queries with UNION ALL between; keys behind a query. No program is walked here. Two queries with UNION ALL between; keys behind a query. No program is walked here. Keys by numbers behind a query. No program is walked here. What a query's expressions look like: no operation has more than two operands. No program is walked here. -/
import Derived.Test.YtgmmbfcjjgehoaaGreatDoorPkJ
namespace Go.Proofs.YtgmmbfcjjgehoaaGreatDoor

/-- The same, but for the error's place. -/
def AlikeP {α : Type} : PR α → PR α → Prop
  | .err e _, .err e' _ => e = e'
  | .ok x r, .ok x' r' => x = x' ∧ r = r'
  | _, _ => False
def Alike {α : Type} (f f' : Rd α) : Prop := ∀ l, AlikeP (f l) (f' l)
theorem AlikeP.refl {α : Type} (x : PR α) : AlikeP x x := by cases x <;> simp [AlikeP]
theorem AlikeP.bind {α β : Type} {x x' : PR α} {f f' : α → Rd β} (h : AlikeP x x') (h2 : ∀ y, Alike (f y) (f' y)) : AlikeP (x.bind f) (x'.bind f') := by
  cases x with
  | err e a =>
    cases x' with
    | err e' a' => exact h
    | ok y r => exact h.elim
  | ok y r =>
    cases x' with
    | err e' a' => exact h.elim
    | ok y' r' =>
      obtain ⟨rfl, rfl⟩ := h
      exact h2 _ _
theorem AlikeP.map {α β : Type} {x x' : PR α} {f : α → β} (h : AlikeP x x') : AlikeP (x.map f) (x'.map f) := by
  rw [map_bind, map_bind]
  exact h.bind fun _ _ => AlikeP.refl _
theorem alike_refl {α : Type} (f : Rd α) : Alike f f := fun _ => AlikeP.refl _
theorem alike_ite {α : Type} {c : List Tok → Bool} {f f' g g' : Rd α} (h1 : Alike f f') (h2 : Alike g g') : Alike (fun l => if c l = true then f l else g l) (fun l => if c l = true then f' l else g' l) := fun l => by
  dsimp only
  split
  · exact h1 l
  · exact h2 l
theorem alike_tail {α : Type} {f f' : Rd α} (h : Alike f f') : Alike (fun l => f l.tail) (fun l => f' l.tail) := fun _ => h _
theorem alike_bind {α β : Type} {f f' : Rd α} {g g' : α → Rd β} (h1 : Alike f f') (h2 : ∀ x, Alike (g x) (g' x)) : Alike (fun l => (f l).bind g) (fun l => (f' l).bind g') := fun l => (h1 l).bind h2
theorem alike_map {α β : Type} {f f' : Rd α} {g : α → β} (h1 : Alike f f') : Alike (fun l => (f l).map g) (fun l => (f' l).map g) := fun l => (h1 l).map
theorem alike_need {α : Type} {z z' : Nat} {s : Bs} {f f' : Rd α} (h : Alike f f') : Alike (fun l => need z s l f) (fun l => need z' s l f') := fun l => by
  dsimp only
  unfold need
  split
  · exact h _
  · exact rfl
theorem alike_chainF {one one' : Rd Ex} (h : Alike one one') (ops : Ops) : ∀ (k : Nat) (e : Ex), Alike (chainF one ops k e) (chainF one' ops k e)
  | 0, e, l => AlikeP.refl _
  | k + 1, e, l => by
    unfold chainF
    cases opOf ops l with
    | none => exact AlikeP.refl _
    | some op => exact (h _).bind fun _ => alike_chainF h ops k _
theorem alike_chain {one one' : Rd Ex} (h : Alike one one') (ops : Ops) : Alike (chain one ops) (chain one' ops) := fun l => (h l).bind fun e r => alike_chainF h ops _ e r
theorem alike_sum {sg sg' : Rd Ex} (h : Alike sg sg') : Alike (bSum sg) (bSum sg') := alike_chain (alike_chain h _) _
theorem alike_null (z z' : Nat) (x : Ex) : Alike (bNull z x) (bNull z' x) := alike_ite (alike_tail (alike_need (alike_refl _))) (alike_need (alike_refl _))
theorem alike_test (z z' : Nat) {sg sg' : Rd Ex} (h : Alike sg sg') : Alike (bTest z sg) (bTest z' sg') := fun l => (alike_sum h l).bind fun x r => by
  try dsimp only
  split
  · exact alike_null z z' x _
  · cases opOf opsCmp r with
    | none => exact AlikeP.refl _
    | some op => exact (alike_sum h _).map
theorem alike_col (z z' : Nat) (s : Bs) : Alike (bCol z s) (bCol z' s) := fun l => by
  unfold bCol
  split
  · split
    · exact rfl
    · split
      · exact AlikeP.refl _
      · exact rfl
  · exact AlikeP.refl _
theorem alike_atom (z z' : Nat) {orr orr' : Rd Ex} (h : Alike orr orr') : Alike (bAtom z orr) (bAtom z' orr') := fun l => by
  cases l with
  | nil => exact rfl
  | cons t r =>
    simp only [bAtom]
    split
    · exact AlikeP.refl _
    · split
      · exact AlikeP.refl _
      · split
        · exact AlikeP.refl _
        · split
          · exact alike_col z z' _ _
          · split
            · exact AlikeP.refl _
            · split
              · exact AlikeP.refl _
              · split
                · exact AlikeP.refl _
                · split
                  · exact (h _).bind fun x => alike_need (alike_refl _)
                  · exact rfl
structure AlikeLev (L L' : Lev) : Prop where
  o : Alike L.o L'.o
  n : Alike L.n L'.n
  s : Alike L.s L'.s
theorem alike_lev (z z' : Nat) : ∀ n, AlikeLev (lev z n) (lev z' n)
  | 0 => ⟨fun _ => rfl, fun _ => rfl, fun _ => rfl⟩
  | n + 1 =>
    have k := alike_lev z z' n
    ⟨alike_chain (alike_chain k.n _) _, alike_ite (alike_tail (alike_map k.n)) (alike_test z z' k.s), alike_ite (alike_tail (alike_map k.s)) (alike_atom z z' k.o)⟩
theorem alike_listF {α : Type} (z z' : Nat) {one one' : Rd α} (h : Alike one one') : ∀ (k : Nat) (acc : List α), Alike (listF z one k acc) (listF z' one' k acc)
  | 0, acc, l => AlikeP.refl _
  | k + 1, acc, l => by
    unfold listF
    split
    · split
      · exact rfl
      · exact (h _).bind fun x => alike_listF z z' h k _
    · exact AlikeP.refl _
theorem alike_list {α : Type} (z z' : Nat) {one one' : Rd α} (h : Alike one one') : Alike (listP z one) (listP z' one') := fun l => (h l).bind fun _ _ => alike_listF z z' h _ _ _
theorem alike_item (z z' : Nat) {orr orr' : Rd Ex} (h : Alike orr orr') : Alike (bItem z orr) (bItem z' orr') := fun l => by
  unfold bItem
  cases opOf opsAgg l with
  | none => exact (h _).map
  | some a => exact alike_need (fun r => by
      try dsimp only
      split
      · exact alike_need (alike_refl _) _
      · exact (h _).bind fun x => alike_need (alike_refl _)) _
theorem alike_key (z z' : Nat) : Alike (bKey z) (bKey z') := fun l => by
  cases l with
  | nil => exact rfl
  | cons t r =>
    simp only [bKey]
    split
    · exact AlikeP.refl _
    · exact rfl
theorem alike_table (z z' : Nat) (kind : Int) (ahead most : Nat) : Alike (bTable z kind ahead most) (bTable z' kind ahead most) := fun l => by
  cases l with
  | nil => exact rfl
  | cons t r =>
    simp only [bTable]
    split
    · split
      · exact rfl
      · exact AlikeP.refl _
    · exact rfl
theorem alike_join (z z' : Nat) {orr orr' : Rd Ex} (h : Alike orr orr') (kind : Int) (ahead most : Nat) : Alike (bJoin z orr kind ahead most) (bJoin z' orr' kind ahead most) :=
  alike_need (alike_bind (alike_table z z' kind ahead most) fun _ => alike_need (alike_map h))
theorem alike_inner (z z' : Nat) {orr orr' : Rd Ex} (h : Alike orr orr') (ahead : Nat) : Alike (bInner z orr ahead) (bInner z' orr' ahead) := alike_ite (alike_tail (alike_table z z' 0 ahead 4)) (alike_join z z' h 0 ahead 4)
theorem alike_outer (z z' : Nat) {orr orr' : Rd Ex} (h : Alike orr orr') (ahead : Nat) : Alike (bOuter z orr ahead) (bOuter z' orr' ahead) := alike_ite (alike_tail (alike_join z z' h 1 ahead 2)) (alike_need (alike_join z z' h 2 ahead 2))
theorem alike_moreF {a b : Bs} {one one' : Nat → Rd Fr} (h : ∀ n, Alike (one n) (one' n)) : ∀ (k : Nat) (acc : List Fr), Alike (moreF a b one k acc) (moreF a b one' k acc)
  | 0, acc, l => AlikeP.refl _
  | k + 1, acc, l => by
    unfold moreF
    split
    · exact (h _ _).bind fun x => alike_moreF h k _
    · exact AlikeP.refl _
theorem alike_tables (z z' : Nat) {orr orr' : Rd Ex} (h : Alike orr orr') : Alike (bTables z orr) (bTables z' orr') :=
  alike_bind (alike_table z z' 0 0 4) fun _ => alike_bind (fun l => alike_moreF (fun n => alike_inner z z' h n) _ _ l) fun _ => alike_map (fun l => alike_moreF (fun n => alike_outer z z' h n) _ _ l)
theorem alike_where {orr orr' : Rd Ex} (h : Alike orr orr') : Alike (bWhere orr) (bWhere orr') := alike_ite (alike_tail (alike_map h)) (alike_refl _)
theorem alike_group (z z' : Nat) {orr orr' : Rd Ex} (h : Alike orr orr') : Alike (bGroup z orr) (bGroup z' orr') := alike_ite (alike_tail (alike_need (alike_list z z' h))) (alike_refl _)
theorem alike_sel2 (z z' : Nat) {orr orr' : Rd Ex} (h : Alike orr orr') : Alike (bSel2 z orr) (bSel2 z' orr') := fun l =>
  alike_bind (alike_list z z' (alike_item z z' h)) (fun i => alike_need (z := z) (z' := z') (s := kwFrom) (alike_bind (alike_tables z z' h) fun f => alike_bind (alike_where h) fun w => alike_map (g := fun g => Sel.mk (bDist l).1 i f w g) (alike_group z z' h))) (bDist l).2
theorem alike_sel (z z' : Nat) {orr orr' : Rd Ex} (h : Alike orr orr') (ahead : Nat) : Alike (bSel z orr ahead) (bSel z' orr' ahead) := fun l => by
  unfold bSel
  refine alike_need (fun r => ?_) l
  (try dsimp only)
  split
  · exact rfl
  · exact alike_sel2 z z' h _
theorem alike_selsF (z z' : Nat) {orr orr' : Rd Ex} (h : Alike orr orr') : ∀ (k : Nat) (acc : List Sel), Alike (selsF z orr k acc) (selsF z' orr' k acc)
  | 0, acc, l => AlikeP.refl _
  | k + 1, acc, l => by
    unfold selsF
    split
    · exact alike_need (alike_bind (alike_sel z z' h _) fun x => alike_selsF z z' h k _) _
    · exact AlikeP.refl _
theorem alike_order (z z' : Nat) : Alike (bOrder z) (bOrder z') := alike_ite (alike_tail (alike_need (alike_list z z' (alike_key z z')))) (alike_refl _)
theorem alike_end {α : Type} (x : α) : Alike (bEnd x) (bEnd x) := alike_refl _
theorem alike_query (z z' : Nat) {orr orr' : Rd Ex} (h : Alike orr orr') : Alike (bQuery z orr) (bQuery z' orr') :=
  alike_bind (alike_sel z z' h 0) fun _ => alike_bind (fun l => alike_selsF z z' h _ _ l) fun _ => alike_bind (alike_order z z') fun _ => alike_refl _

/-- The same query, or the same error. -/
def alikeQ : PQ → PQ → Prop
  | .err e _, .err e' _ => e = e'
  | .ok q, .ok q' => q = q'
  | _, _ => False
theorem parse_blanks {s : Bs} (hs : s.length ≤ 900) : alikeQ (parseS s) (parseS (s ++ [32, 32, 10])) := by
  have h1 : ¬ 2000 < s.length := by omega
  have h2 : ¬ 2000 < (s ++ [32, 32, 10]).length := by rw [List.length_append]; simp; omega
  obtain ⟨i1, i2⟩ := lexL_behind (c := 32) (bl := [32, 10]) rfl (by decide) s 0 0
  unfold parseS
  unfold lexS
  rw [if_neg h1, if_neg h2]
  cases hl : lexL s 0 0 with
  | err e a =>
    rcases i2 e a hl with h | ⟨-, h⟩ <;> rw [h] <;> exact rfl
  | ok L =>
    rw [i1 L hl]
    dsimp only
    have := alike_query s.length (s ++ [32, 32, 10]).length (alike_lev s.length (s ++ [32, 32, 10]).length 60).o L
    cases h3 : bQuery s.length (lev s.length 60).o L with
    | err e a =>
      rw [h3] at this
      cases h4 : bQuery (s ++ [32, 32, 10]).length (lev (s ++ [32, 32, 10]).length 60).o L with
      | err e' a' => rw [h4] at this; exact this
      | ok q r => rw [h4] at this; exact this.elim
    | ok q r =>
      rw [h3] at this
      cases h4 : bQuery (s ++ [32, 32, 10]).length (lev (s ++ [32, 32, 10]).length 60).o L with
      | err e' a' => rw [h4] at this; exact this.elim
      | ok q' r' => rw [h4] at this; exact this.1

end Go.Proofs.YtgmmbfcjjgehoaaGreatDoor

namespace Go.Proofs.YtgmmbfcjjgehoaaGreatDoor

/-- A text that may be read, a byte at which a token ends, and more. -/
theorem lexL_stop {c : UInt8} (hs : Stop c) (t : Bs) (l : Bs) : ∀ pos cnt A, lexL l pos cnt = .ok A → lexL (l ++ c :: t) pos cnt = (lexL (c :: t) (pos + l.length) (cnt + A.length)).pre A := by
  refine lex_ind (P := fun l => ∀ pos cnt A, lexL l pos cnt = .ok A → lexL (l ++ c :: t) pos cnt = (lexL (c :: t) (pos + l.length) (cnt + A.length)).pre A) (fun pos cnt A h => ?_) (fun b r h ih pos cnt A hA => ?_) (fun b r e rel h h1 pos cnt A hA => ?_) (fun b r kd n s used h h1 ih pos cnt A hA => ?_) l
  · cases h
    rw [List.nil_append, pre_nil]
    rfl
  · rw [lexL_blank h] at hA
    rw [List.cons_append, lexL_blank h, ih _ _ _ hA, List.length_cons, show pos + 1 + r.length = pos + (r.length + 1) by omega]
  · rw [lexL_err h h1] at hA
    cases hA
  · have hu := one_used h1
    have h2 := one_tok (t := t) hs h1
    rw [lexL_tok h h1] at hA
    rw [List.cons_append] at h2 ⊢
    rw [lexL_tok h h2, ← List.cons_append, drop_app hu.2]
    split at hA
    · cases hA
    · rename_i h400
      rw [if_neg h400]
      obtain ⟨B, hB, rfl⟩ := push_ok hA
      rw [ih _ _ _ hB, pre_push, List.length_drop, show pos + used + ((b :: r).length - used) = pos + (b :: r).length by omega, show cnt + 1 + B.length = cnt + (B.length + 1) by omega]
      rfl
/-- Behind fewer tokens: the same. -/
theorem lexL_fewer (l : Bs) : ∀ pos c0 cnt B, c0 ≤ cnt → cnt ≤ 400 → lexL l pos cnt = .ok B → lexL l pos c0 = .ok B := by
  refine lex_ind (P := fun l => ∀ pos c0 cnt B, c0 ≤ cnt → cnt ≤ 400 → lexL l pos cnt = .ok B → lexL l pos c0 = .ok B) (fun pos c0 cnt B h1 _ hB => hB) (fun b r h ih pos c0 cnt B h1 h2 hB => ?_) (fun b r e rel h h1 pos c0 cnt B _ _ hB => ?_) (fun b r kd n s used h h1 ih pos c0 cnt B h2 h3 hB => ?_) l
  · rw [lexL_blank h] at hB ⊢
    exact ih _ _ _ _ h1 h2 hB
  · rw [lexL_err h h1] at hB
    cases hB
  · rw [lexL_tok h h1] at hB ⊢
    split at hB
    · cases hB
    · obtain ⟨B', hB', rfl⟩ := push_ok hB
      rw [if_neg (by omega), ih _ (c0 + 1) _ _ (by omega) (by omega) hB']
      rfl
theorem lexL_full {c : UInt8} (hs : Stop c) (t : Bs) (l : Bs) : ∀ pos c0 cnt B, c0 ≤ cnt → cnt ≤ 400 → lexL l pos c0 = .ok B → 400 < cnt + B.length → ∃ a, lexL (l ++ c :: t) pos cnt = .err 5 a := by
  refine lex_ind (P := fun l => ∀ pos c0 cnt B, c0 ≤ cnt → cnt ≤ 400 → lexL l pos c0 = .ok B → 400 < cnt + B.length → ∃ a, lexL (l ++ c :: t) pos cnt = .err 5 a) (fun pos c0 cnt B h1 h2 hB h => ?_) (fun b r h ih pos c0 cnt B h1 h2 hB hh => ?_) (fun b r e rel h h1 pos c0 cnt B _ _ hB => ?_) (fun b r kd n s used h h1 ih pos c0 cnt B h2 h3 hB hh => ?_) l
  · cases hB
    simp at h
    omega
  · rw [lexL_blank h] at hB
    rw [List.cons_append, lexL_blank h]
    exact ih _ _ _ _ h1 h2 hB hh
  · rw [lexL_err h h1] at hB
    cases hB
  · have hu := one_used h1
    have h4 := one_tok (t := t) hs h1
    rw [lexL_tok h h1] at hB
    rw [List.cons_append] at h4 ⊢
    rw [lexL_tok h h4, ← List.cons_append, drop_app hu.2]
    split at hB
    · cases hB
    · obtain ⟨B', hB', rfl⟩ := push_ok hB
      by_cases h400 : cnt = 400
      · rw [if_pos h400]; exact ⟨_, rfl⟩
      · rw [if_neg h400]
        obtain ⟨a, ha⟩ := ih (pos + used) (c0 + 1) (cnt + 1) B' (by omega) (by omega) hB' (by simp at hh; omega)
        exact ⟨a, by rw [ha]; rfl⟩
theorem stp_shift (m : Nat) (L : List Tok) : (L.map (Tok.shift m)).map stp = L.map stp := by rw [List.map_map]; rfl
/-- Tokens elsewhere, behind others. -/
theorem lexL_else {l : Bs} {B : List Tok} (h : lexL l 0 0 = .ok B) (pos : Nat) : ∃ B', lexL l pos 0 = .ok B' ∧ B'.map stp = B.map stp ∧ B'.length = B.length := by
  have := lexL_shift pos l 0 0
  rw [h, Nat.zero_add] at this
  exact ⟨_, this, stp_shift _ _, List.length_map _⟩
theorem lex_seq {c : UInt8} (hs : Stop c) {l : Bs} {B : List Tok} (h : lexL l 0 0 = .ok B) (t : Bs) (pos : Nat) {cnt : Nat} (hc : cnt ≤ 400) :
    (∃ B', B'.map stp = B.map stp ∧ B'.length = B.length ∧ cnt + B'.length ≤ 400 ∧ lexL (l ++ c :: t) pos cnt = (lexL (c :: t) (pos + l.length) (cnt + B'.length)).pre B') ∨ ∃ a, lexL (l ++ c :: t) pos cnt = .err 5 a := by
  obtain ⟨B', h1, h2, h3⟩ := lexL_else h pos
  by_cases hh : cnt + B'.length ≤ 400
  · have := (lexL_count l pos 0 cnt B' (Nat.zero_le _) hc h1).1 hh
    exact .inl ⟨B', h2, h3, hh, lexL_stop hs t l _ _ _ this⟩
  · exact .inr (lexL_full hs t l pos 0 cnt B' (Nat.zero_le _) hc h1 (by omega))
theorem lex_last {l : Bs} {B : List Tok} (h : lexL l 0 0 = .ok B) (pos : Nat) {cnt : Nat} (hc : cnt ≤ 400) : (∃ B', B'.map stp = B.map stp ∧ lexL l pos cnt = .ok B') ∨ ∃ a, lexL l pos cnt = .err 5 a := by
  obtain ⟨B', h1, h2, h3⟩ := lexL_else h pos
  obtain ⟨i1, i2⟩ := lexL_count l pos 0 cnt B' (Nat.zero_le _) hc h1
  by_cases hh : cnt + B'.length ≤ 400
  · exact .inl ⟨B', h2, i1 hh⟩
  · exact .inr (i2 (by omega))
/-- What may not be read may not be read elsewhere. -/
theorem lex_not {l : Bs} {e a : Nat} (h : lexL l 0 0 = .err e a) (pos : Nat) {cnt : Nat} (hc : cnt ≤ 400) (L : List Tok) : lexL l pos cnt ≠ .ok L := fun hl => by
  have h1 := lexL_fewer l pos 0 cnt L (Nat.zero_le _) hc hl
  have := lexL_shift pos l 0 0
  rw [h, Nat.zero_add, h1] at this
  cases this
theorem pre_ok {r : Res} {A L : List Tok} (h : r.pre A = .ok L) : ∃ B, r = .ok B ∧ L = A ++ B := by
  cases r with
  | ok l => cases h; exact ⟨l, rfl, rfl⟩
  | err e a => cases h

theorem chain_end {one : Rd Ex} {l : List Tok} {x : Ex} (ops : Ops) (h : one l = .ok x []) : chain one ops l = .ok x [] := by
  unfold chain
  rw [h, bind_ok]
  exact chainW_none (opOf_nil _)
theorem chain_bad {one : Rd Ex} {l : List Tok} {e a : Nat} (ops : Ops) (h : one l = .err e a) : chain one ops l = .err e a := by
  unfold chain
  rw [h]
  rfl
abbrev lpT (a : Nat) : Tok := ⟨6, 0, a, [40]⟩
theorem lev_s (z n a : Nat) (D : List Tok) : (lev z (n + 1)).s (lpT a :: D) = ((lev z n).o D).bind fun x r2 => need z [41] r2 (fun r3 => .ok x r3) := rfl
/-- Brackets at the beginning. -/
theorem lev_open (z n a : Nat) (D : List Tok) (y : Ex) (r : List Tok) (h : (lev z (n + 3)).o (lpT a :: D) = .ok y r) : ∃ x r2 t, (lev z n).o D = .ok x (t :: r2) ∧ hSees [41] (t :: r2) = true := by
  have h1 : chain (chain (fun l => if hSees kwNot l then ((lev z (n + 1)).n l.tail).map (exOne 17) else bTest z (lev z (n + 1)).s l) opsAnd) opsOr (lpT a :: D) = .ok y r := h
  have hs := lev_s z n a D
  cases h2 : (lev z n).o D with
  | err e b =>
    rw [h2, bind_err] at hs
    have h3 : bTest z (lev z (n + 1)).s (lpT a :: D) = .err e b := by
      unfold bTest bSum bProd
      rw [chain_bad _ (chain_bad _ hs)]
      rfl
    rw [chain_bad _ (chain_bad _ (show (if hSees kwNot (lpT a :: D) then ((lev z (n + 1)).n D).map (exOne 17) else bTest z (lev z (n + 1)).s (lpT a :: D)) = _ from h3))] at h1
    cases h1
  | ok x r2 =>
    rw [h2, bind_ok] at hs
    cases h4 : hSees [41] r2 with
    | false =>
      unfold need at hs
      rw [h4] at hs
      have h3 : bTest z (lev z (n + 1)).s (lpT a :: D) = .err 7 (hAt z r2) := by
        unfold bTest bSum bProd
        rw [chain_bad _ (chain_bad _ hs)]
        rfl
      rw [chain_bad _ (chain_bad _ (show (if hSees kwNot (lpT a :: D) then ((lev z (n + 1)).n D).map (exOne 17) else bTest z (lev z (n + 1)).s (lpT a :: D)) = _ from h3))] at h1
      cases h1
    | true =>
      obtain ⟨t, r3, rfl, -, -⟩ := sees_cons h4
      exact ⟨x, r3, t, rfl, h4⟩
theorem lev_brackets (z n a : Nat) (D : List Tok) (x : Ex) (t : Tok) (h : (lev z n).o D = .ok x [t]) (ht : hSees [41] [t] = true) : (lev z (n + 3)).o (lpT a :: D) = .ok x [] := by
  have hs := lev_s z n a D
  rw [h, bind_ok] at hs
  unfold need at hs
  rw [ht, if_pos rfl] at hs
  have h3 : bTest z (lev z (n + 1)).s (lpT a :: D) = .ok x [] := by
    unfold bTest bSum bProd
    rw [chain_end _ (chain_end _ hs)]
    rfl
  exact chain_end opsOr (chain_end opsAnd (show (if hSees kwNot (lpT a :: D) then ((lev z (n + 1)).n D).map (exOne 17) else bTest z (lev z (n + 1)).s (lpT a :: D)) = _ from h3))

/-- SELECT a FROM t WHERE -/
def headS : Bs := [83, 69, 76, 69, 67, 84, 32, 97, 32, 70, 82, 79, 77, 32, 116, 32, 87, 72, 69, 82, 69]
def headT : List Tok := [⟨1, 0, 0, kwSelect⟩, ⟨2, 0, 7, [97]⟩, ⟨1, 0, 9, kwFrom⟩, ⟨2, 0, 14, [116]⟩, ⟨1, 0, 16, kwWhere⟩]
theorem head_lex : lexL headS 0 0 = .ok headT := by rfl
def colA : Ex := .mk 19 (txtV [97]) 0 0 0 ⟨#[]⟩ []
theorem lev_a (z n a : Nat) (t : Tok) (m : List Tok) (hm : Stopper (t :: m)) : (lev z (n + 4)).o (⟨2, 0, a, [97]⟩ :: t :: m) = .ok colA (t :: m) := by
  have h0 : (lev z (n + 4)).o [⟨2, 0, a, [97]⟩] = .ok colA [] := rfl
  obtain ⟨r', h1, h2⟩ := (ext_lev hm z z (n + 4) (n + 4) (Nat.le_refl _)).o [⟨2, 0, a, [97]⟩] (⟨2, 0, a, [97]⟩ :: t :: m) colA [] rfl h0
  obtain ⟨p, hp, hn⟩ := (lev_shr z (n + 4)).o _ _ _ h1
  have hl : r'.length = (t :: m).length := by
    have := congrArg List.length h2
    simpa using this
  have hp' := congrArg List.length hp
  rw [List.length_append] at hp'
  cases p with
  | nil => exact absurd rfl hn
  | cons b p =>
    obtain rfl : p = [] := List.length_eq_zero_iff.1 (by simp at hp' hl; omega)
    simp only [List.cons_append, List.nil_append, List.cons.injEq] at hp
    rw [h1, ← hp.2]
theorem head_sel (z : Nat) (C : List Tok) : bSel z (lev z 60).o 0 (headT ++ C) = ((lev z 60).o C).bind fun x r => (bGroup z (lev z 60).o r).map fun g => ⟨false, [⟨0, colA⟩], [⟨[116], [116], 0, []⟩], [x], g⟩ := by
  have h := lev_a z 56 7 ⟨1, 0, 9, kwFrom⟩ (⟨2, 0, 14, [116]⟩ :: ⟨1, 0, 16, kwWhere⟩ :: C) (stopper_of (by decide) (by decide))
  have h2 : bItem z (lev z 60).o (⟨2, 0, 7, [97]⟩ :: ⟨1, 0, 9, kwFrom⟩ :: ⟨2, 0, 14, [116]⟩ :: ⟨1, 0, 16, kwWhere⟩ :: C) = .ok ⟨0, colA⟩ (⟨1, 0, 9, kwFrom⟩ :: ⟨2, 0, 14, [116]⟩ :: ⟨1, 0, 16, kwWhere⟩ :: C) := by
    unfold bItem
    rw [show opOf opsAgg (⟨2, 0, 7, [97]⟩ :: ⟨1, 0, 9, kwFrom⟩ :: ⟨2, 0, 14, [116]⟩ :: ⟨1, 0, 16, kwWhere⟩ :: C) = none from rfl]
    dsimp only
    rw [h]
    rfl
  have h3 : listP z (bItem z (lev z 60).o) (⟨2, 0, 7, [97]⟩ :: ⟨1, 0, 9, kwFrom⟩ :: ⟨2, 0, 14, [116]⟩ :: ⟨1, 0, 16, kwWhere⟩ :: C) = .ok [⟨0, colA⟩] (⟨1, 0, 9, kwFrom⟩ :: ⟨2, 0, 14, [116]⟩ :: ⟨1, 0, 16, kwWhere⟩ :: C) := by
    unfold listP
    rw [h2, bind_ok]
    exact listW_none rfl
  unfold bSel need
  rw [show hSees kwSelect (headT ++ C) = true from rfl, if_pos rfl]
  dsimp only
  rw [if_neg (by decide)]
  unfold bSel2
  rw [show bDist (headT ++ C).tail = (false, ⟨2, 0, 7, [97]⟩ :: ⟨1, 0, 9, kwFrom⟩ :: ⟨2, 0, 14, [116]⟩ :: ⟨1, 0, 16, kwWhere⟩ :: C) from rfl, h3, bind_ok]
  unfold need
  rw [show hSees kwFrom (⟨1, 0, 9, kwFrom⟩ :: ⟨2, 0, 14, [116]⟩ :: ⟨1, 0, 16, kwWhere⟩ :: C) = true from rfl, if_pos rfl, List.tail_cons]
  have h4 : bTables z (lev z 60).o (⟨2, 0, 14, [116]⟩ :: ⟨1, 0, 16, kwWhere⟩ :: C) = .ok [⟨[116], [116], 0, []⟩] (⟨1, 0, 16, kwWhere⟩ :: C) := by
    unfold bTables
    rw [show bTable z 0 0 4 (⟨2, 0, 14, [116]⟩ :: ⟨1, 0, 16, kwWhere⟩ :: C) = .ok ⟨[116], [116], 0, []⟩ (⟨1, 0, 16, kwWhere⟩ :: C) from rfl, bind_ok, moreW_none rfl, bind_ok, moreW_none rfl]
    rfl
  dsimp only
  rw [h4, bind_ok]
  unfold bWhere
  rw [show hSees kwWhere (⟨1, 0, 16, kwWhere⟩ :: C) = true from rfl, if_pos rfl, List.tail_cons]
  cases (lev z 60).o C <;> rfl
/-- Selects never get fewer. -/
theorem selsF_least {z : Nat} {orr : Rd Ex} : ∀ (k : Nat) (acc : List Sel) (l : List Tok) (x : List Sel) (r : List Tok), selsF z orr k acc l = .ok x r → acc.length ≤ x.length ∧ (acc.length = x.length → x = acc ∧ r = l)
  | 0, acc, l, x, r, h => by cases h; exact ⟨Nat.le_refl _, fun _ => ⟨rfl, rfl⟩⟩
  | k + 1, acc, l, x, r, h => by
    unfold selsF at h
    split at h
    · obtain ⟨t, l', e1, -, h2⟩ := need_ok h
      obtain ⟨y, r1, e2, e3⟩ := bind_eq_ok h2
      have := (selsF_least k _ _ _ _ e3).1
      rw [List.length_append, List.length_singleton] at this
      exact ⟨by omega, fun e => absurd e (by omega)⟩
    · cases h; exact ⟨Nat.le_refl _, fun _ => ⟨rfl, rfl⟩⟩
/-- One select without groups, without an order: behind it there is nothing. -/
theorem lone_query {z : Nat} {orr : Rd Ex} {l r : List Tok} {q : Qu} (h : bQuery z orr l = .ok q r) (h1 : q.sels.length = 1) (h2 : q.order = []) : ∃ s, bSel z orr 0 l = .ok s [] ∧ q = ⟨[s], []⟩ := by
  obtain ⟨s, r1, e1, e2⟩ := bind_eq_ok h
  obtain ⟨ss, r2, e3, e4⟩ := bind_eq_ok e2
  obtain ⟨o, r3, e5, e6⟩ := bind_eq_ok e4
  cases r3 with
  | cons t r3 => cases e6
  | nil =>
    cases e6
    obtain ⟨rfl, rfl⟩ := (selsF_least _ _ _ _ _ e3).2 h1.symm
    dsimp only at h2
    subst h2
    unfold bOrder at e5
    split at e5
    · obtain ⟨t, l', -, -, e7⟩ := need_ok e5
      have := (listP_most e7).1
      simp at this
    · cases e5
      exact ⟨s, e1, rfl⟩
theorem head_query {z : Nat} {C r : List Tok} {q : Qu} (h : bQuery z (lev z 60).o (headT ++ C) = .ok q r) (h1 : q.sels.length = 1) (h2 : q.order = []) (h3 : ∀ s ∈ q.sels, s.group = []) : ∃ x, (lev z 60).o C = .ok x [] ∧ q = ⟨[⟨false, [⟨0, colA⟩], [⟨[116], [116], 0, []⟩], [x], []⟩], []⟩ := by
  obtain ⟨s, e, rfl⟩ := lone_query h h1 h2
  rw [head_sel] at e
  obtain ⟨x, r1, e1, e2⟩ := bind_eq_ok e
  obtain ⟨g, e3, rfl⟩ := map_eq_ok e2
  have : g = [] := h3 _ List.mem_cons_self
  subst this
  unfold bGroup at e3
  split at e3
  · obtain ⟨t, l', -, -, e7⟩ := need_ok e3
    have := (listP_most e7).1
    simp at this
  · cases e3
    exact ⟨x, e1, rfl⟩
theorem parseS_inv {s : Bs} {q : Qu} (h : parseS s = .ok q) : ∃ L, lexL s 0 0 = .ok L ∧ s.length ≤ 2000 ∧ bQuery s.length (lev s.length 60).o L = .ok q [] := by
  unfold parseS at h
  cases hl : lexS s with
  | err e' a' => rw [hl] at h; cases h
  | ok L =>
    rw [hl] at h
    dsimp only at h
    cases hq : bQuery s.length (lev s.length 60).o L with
    | err e' a' => rw [hq] at h; cases h
    | ok q' r =>
      rw [hq] at h
      cases h
      have := (bQuery_ok (lev_shr _ 60).o (lexS_toks hl).1 hq).2
      subst this
      exact ⟨L, (lexS_ok hl).2, (lexS_ok hl).1, hq⟩
theorem stop_rp : Stop 41 := ⟨by decide, by decide, by decide, by decide, by decide⟩
theorem parse_brackets {cond : Bs} {c d : Qu} (hc : parseS (headS ++ 32 :: cond) = .ok c) (hd : parseS (headS ++ 32 :: 40 :: (cond ++ [41])) = .ok d) (h1 : c.sels.length = 1) (h2 : c.order = []) (h3 : ∀ s ∈ c.sels, s.group = []) : c = d := by
  obtain ⟨C, lc, -, qc⟩ := parseS_inv hc
  obtain ⟨D, ld, -, qd⟩ := parseS_inv hd
  generalize (headS ++ 32 :: cond).length = z at qc
  generalize (headS ++ 32 :: 40 :: (cond ++ [41])).length = z' at qd
  rw [lexL_then rfl _ _ _ _ _ head_lex, show 0 + List.length headS + 1 = 22 from rfl, show 0 + headT.length = 5 from rfl] at lc ld
  obtain ⟨C, lc2, rfl⟩ := pre_ok lc
  obtain ⟨D, ld2, rfl⟩ := pre_ok ld
  have e40 : lexL (40 :: (cond ++ [41])) 22 5 = (lexL (cond ++ [41]) 23 6).push (lpT 22) := by
    have : one (40 :: (cond ++ [41])) = .tok 6 0 [40] 1 := by cases h : cond ++ [41] <;> rfl
    rw [lexL_tok rfl this]
    rfl
  rw [e40] at ld2
  obtain ⟨D, ld3, rfl⟩ := push_ok ld2
  have ld4 := lexL_fewer _ _ 5 _ _ (by decide) (by decide) ld3
  have lc' := lexL_shift 1 cond 22 5
  rw [lc2] at lc'
  rw [lexL_stop stop_rp [] cond 23 5 _ lc'] at ld4
  obtain ⟨E, le, rfl⟩ := pre_ok ld4
  have : one [41] = .tok 6 0 [41] 1 := rfl
  rw [lexL_tok rfl this] at le
  split at le
  · cases le
  obtain ⟨E', le2, rfl⟩ := push_ok le
  cases le2
  obtain ⟨x, ox, rfl⟩ := head_query qc h1 h2 h3
  obtain ⟨s, r1, e1, e2⟩ := bind_eq_ok qd
  rw [head_sel] at e1
  obtain ⟨y, r2, e3, e4⟩ := bind_eq_ok e1
  obtain ⟨x2, r3, t, o2, ht⟩ := lev_open z' 57 22 _ _ _ e3
  have hS : Stopper [⟨6, 0, 23 + cond.length, [41]⟩] := stopper_of (show (6 : Nat) ≠ 2 by decide) (show ([41] : Bs) ∉ contW by decide)
  obtain ⟨r4, k1, k2⟩ := (ext_lev hS z z' 60 60 (Nat.le_refl _)).o C (C.map (Tok.shift 1) ++ [⟨6, 0, 23 + cond.length, [41]⟩]) x [] (by unfold Ap; rw [List.map_append, List.map_append, stp_shift]) ox
  obtain ⟨r5, k3, k4⟩ := (ext_lev stopper_nil z' z' 57 60 (by decide)).o _ _ _ _ (show Ap [] (C.map (Tok.shift 1) ++ [⟨6, 0, 23 + cond.length, [41]⟩]) (C.map (Tok.shift 1) ++ [⟨6, 0, 23 + cond.length, [41]⟩]) from by unfold Ap; rw [List.append_nil]) o2
  have k5 := k1.symm.trans k3
  cases k5
  have hr3 : r3 = [] := by
    have h4 := congrArg List.length k2
    have h5 := congrArg List.length k4
    simp at h4 h5
    exact List.length_eq_zero_iff.1 (by omega)
  subst hr3
  have k6 := lev_brackets z' 57 22 _ _ _ o2 ht
  have k7 := k6.symm.trans e3
  cases k7
  have e5 : bGroup z' (lev z' 60).o [] = .ok [] [] := rfl
  rw [e5] at e4
  cases e4
  have e6 : selsW z' (lev z' 60).o [⟨false, [⟨0, colA⟩], [⟨[116], [116], 0, []⟩], [x], []⟩] [] = .ok [⟨false, [⟨0, colA⟩], [⟨[116], [116], 0, []⟩], [x], []⟩] [] := rfl
  rw [e6] at e2
  cases e2
  rfl

end Go.Proofs.YtgmmbfcjjgehoaaGreatDoor

namespace Go.Proofs.YtgmmbfcjjgehoaaGreatDoor

theorem ap_nil {l l' : List Tok} : Ap [] l l' ↔ l'.map stp = l.map stp := by unfold Ap; rw [List.append_nil]
theorem ext_order (z z' : Nat) : Ext [] (bOrder z) (bOrder z') := fun l l' x r h e => by
  unfold bOrder at e ⊢
  rw [sees_map (ap_nil.1 h)]
  split at e
  · rename_i hs
    rw [if_pos hs]
    exact ext_need (ext_list stopper_nil (bKey_shr z).keep (bKey_shr z').keep (ext_key stopper_nil z z')) _ _ _ _ (h.tail (sees_ne hs)) e
  · rename_i hs
    rw [if_neg hs]
    cases e
    exact ⟨l', rfl, h⟩
/-- A query with more behind it. -/
theorem query_more {z : Nat} {l r m : List Tok} {q : Qu} (h : bQuery z (lev z 60).o l = .ok q r) (hm : Stopper m) (z' : Nat) {l' : List Tok} (hl : Ap m l l') : ∃ m', m'.map stp = m.map stp ∧
    (q.order = [] → bQuery z' (lev z' 60).o l' = (selsW z' (lev z' 60).o q.sels m').bind fun ss r2 => (bOrder z' r2).bind fun o r3 => bEnd ⟨ss, o⟩ r3) ∧
    (q.order ≠ [] → bQuery z' (lev z' 60).o l' = bEnd q m') := by
  obtain ⟨s, r1, e1, e2⟩ := bind_eq_ok h
  obtain ⟨ss, r2, e3, e4⟩ := bind_eq_ok e2
  obtain ⟨o, r3, e5, e6⟩ := bind_eq_ok e4
  have hk := (lev_shr z 60).o
  have hk' := (lev_shr z' 60).o
  have hx := (ext_lev hm z z' 60 60 (Nat.le_refl _)).o
  obtain ⟨r1', k1, k2⟩ := ext_sel hm z z' hk hk' hx (a := 0) (a' := 0) (by decide) _ _ _ _ hl e1
  obtain ⟨r2', k3, k4, k5⟩ := ext_selsF hm z z' hk hk' hx _ _ _ _ _ _ (Nat.le_refl _) k2 e3
  have hq : bQuery z' (lev z' 60).o l' = (selsW z' (lev z' 60).o ss r2').bind fun ss r2 => (bOrder z' r2).bind fun o r3 => bEnd ⟨ss, o⟩ r3 := by
    unfold bQuery
    rw [k1, bind_ok, k4]
  cases r3 with
  | cons t r3 => cases e6
  | nil =>
    cases e6
    unfold bOrder at e5
    split at e5
    · rename_i hs
      obtain ⟨t, l2, e7, hs2, e8⟩ := need_ok e5
      have hn := sees_ne hs
      have hu : hSees kwUnion r2' = false := by rw [sees_some k3 hn]; exact k5
      have ho : hSees kwOrder r2' = true := by rw [sees_some k3 hn]; exact hs
      obtain ⟨r3', k6, k7⟩ := ext_need (s := kwBy) (z := z) (z' := z') (ext_list hm (bKey_shr z).keep (bKey_shr z').keep (ext_key hm z z')) _ _ _ _ (k3.tail hn) e5
      refine ⟨r3', by simpa [Ap] using k7, fun e => ?_, fun _ => ?_⟩
      · have := (listP_most e8).1
        dsimp only at e
        rw [e] at this
        simp at this
      · rw [hq, selsW_none hu, bind_ok]
        unfold bOrder
        rw [ho, if_pos rfl]
        dsimp only at k6
        rw [k6]
        rfl
    · cases e5
      exact ⟨r2', by simpa [Ap] using k3, fun _ => hq, fun e => absurd rfl e⟩

/-- The rest of a query, from a select on. -/
def tailQ (z : Nat) (orr : Rd Ex) (acc : List Sel) (l : List Tok) : PR Qu := (bSel z orr acc.length l).bind fun x r => (selsW z orr (acc ++ [x]) r).bind fun ss r2 => (bOrder z r2).bind fun o r3 => bEnd ⟨ss, o⟩ r3
theorem tailQ_nil (z : Nat) (orr : Rd Ex) (l : List Tok) : bQuery z orr l = tailQ z orr [] l := rfl
theorem bSel_full {z : Nat} {orr : Rd Ex} {l : List Tok} (h : hSees kwSelect l = true) : bSel z orr 4 l = .err 5 (hAt z l) := by
  unfold bSel need
  rw [h]
  rfl
theorem bSel_sees {z : Nat} {orr : Rd Ex} {a : Nat} {l r : List Tok} {x : Sel} (h : bSel z orr a l = .ok x r) : hSees kwSelect l = true := by
  unfold bSel at h
  obtain ⟨t, l', -, h2, -⟩ := need_ok h
  exact h2
/-- Selects behind others. -/
theorem sels_behind (z z' : Nat) (P : List Sel) : ∀ (k : Nat) (acc : List Sel) (l l' : List Tok) (ss : List Sel) (r : List Tok), l.length ≤ k → l'.map stp = l.map stp → selsF z (lev z 60).o k acc l = .ok ss r → P.length + acc.length ≤ 4 →
    (P.length + ss.length ≤ 4 → ∃ r', r'.map stp = r.map stp ∧ selsW z' (lev z' 60).o (P ++ acc) l' = .ok (P ++ ss) r') ∧ (4 < P.length + ss.length → ∃ a, selsW z' (lev z' 60).o (P ++ acc) l' = .err 5 a)
  | 0, acc, l, l', ss, r, hl, h, he, h4 => by
    obtain rfl : l = [] := List.length_eq_zero_iff.1 (by omega)
    cases he
    obtain rfl : l' = [] := by simpa using h
    exact ⟨fun _ => ⟨[], rfl, rfl⟩, fun h => absurd h (by omega)⟩
  | k + 1, acc, l, l', ss, r, hl, h, he, h4 => by
    unfold selsF at he
    cases hs : hSees kwUnion l with
    | false =>
      rw [hs] at he
      cases he
      refine ⟨fun _ => ⟨l', h, selsW_none (by rw [sees_map h]; exact hs)⟩, fun h => absurd h (by omega)⟩
    | true =>
      rw [hs, if_pos rfl] at he
      have hs' : hSees kwUnion l' = true := by rw [sees_map h]; exact hs
      have ht := (ap_nil.2 h).tail (sees_ne hs)
      obtain ⟨t, l2, e2, ha, h2⟩ := need_ok he
      have ha' := sees_ap ht ha
      have ht2 := ht.tail (sees_ne ha)
      obtain ⟨y, r1, e1, e3⟩ := bind_eq_ok h2
      have e1' : bSel z (lev z 60).o acc.length l.tail.tail = .ok y r1 := by rw [e2]; exact e1
      have hge := (selsF_least _ _ _ _ _ e3).1
      rw [List.length_append, List.length_singleton] at hge
      by_cases hp : P.length + acc.length = 4
      · refine ⟨fun hh => absurd hh (by omega), fun _ => ?_⟩
        have hsel : hSees kwSelect l'.tail.tail = true := sees_ap ht2 (bSel_sees e1')
        exact ⟨_, selsW_err hs' ha' (by rw [List.length_append, hp]; exact bSel_full hsel)⟩
      · obtain ⟨r1', k1, k2⟩ := ext_sel stopper_nil z z' (lev_shr z 60).o (lev_shr z' 60).o (ext_lev stopper_nil z z' 60 60 (Nat.le_refl _)).o (a' := (P ++ acc).length) (by rw [List.length_append]; exact hp) _ _ _ _ ht2 e1'
        have := (bSel_shr z (lev_shr z 60).o _).len e1'
        simp only [List.length_tail] at this
        have := sels_behind z z' P k (acc ++ [y]) r1 r1' ss r (by omega) (ap_nil.1 k2) e3 (by rw [List.length_append, List.length_singleton]; omega)
        rw [selsW_some (lev_shr z' 60).o hs' ha' k1, List.append_assoc]
        exact this
/-- .. and the other way round. -/
theorem sels_ahead (z z' : Nat) (P : List Sel) : ∀ (k : Nat) (acc : List Sel) (l l' : List Tok) (ss : List Sel) (r' : List Tok), l'.length ≤ k → l'.map stp = l.map stp → selsF z' (lev z' 60).o k (P ++ acc) l' = .ok ss r' → P.length + acc.length ≤ 4 →
    ∃ x r, r.map stp = r'.map stp ∧ selsW z (lev z 60).o acc l = .ok x r
  | 0, acc, l, l', ss, r', hl, h, he, h4 => by
    obtain rfl : l' = [] := List.length_eq_zero_iff.1 (by omega)
    cases he
    obtain rfl : l = [] := by simpa using h.symm
    exact ⟨acc, [], rfl, rfl⟩
  | k + 1, acc, l, l', ss, r', hl, h, he, h4 => by
    unfold selsF at he
    cases hs : hSees kwUnion l' with
    | false =>
      rw [hs] at he
      cases he
      exact ⟨acc, l, h.symm, selsW_none (by rw [← sees_map h]; exact hs)⟩
    | true =>
      rw [hs, if_pos rfl] at he
      have hs' : hSees kwUnion l = true := by rw [← sees_map h]; exact hs
      have ht := (ap_nil.2 h.symm).tail (sees_ne hs)
      obtain ⟨t, l2, e2, ha, h2⟩ := need_ok he
      have ha' := sees_ap ht ha
      have ht2 := ht.tail (sees_ne ha)
      obtain ⟨y, r1, e1, e3⟩ := bind_eq_ok h2
      have e1' : bSel z' (lev z' 60).o (P ++ acc).length l'.tail.tail = .ok y r1 := by rw [e2]; exact e1
      have h5 := bSel_four e1'
      rw [List.length_append] at h5
      obtain ⟨r1', k1, k2⟩ := ext_sel stopper_nil z' z (lev_shr z' 60).o (lev_shr z 60).o (ext_lev stopper_nil z' z 60 60 (Nat.le_refl _)).o (a' := acc.length) (by omega) _ _ _ _ ht2 e1'
      have := (bSel_shr z' (lev_shr z' 60).o _).len e1'
      simp only [List.length_tail] at this
      rw [List.append_assoc] at e3
      have := sels_ahead z z' P k (acc ++ [y]) r1' r1 ss r' (by omega) (ap_nil.1 k2).symm e3 (by rw [List.length_append, List.length_singleton]; omega)
      rw [selsW_some (lev_shr z 60).o hs' ha' k1]
      exact this
theorem tail_behind {z : Nat} {l r : List Tok} {q : Qu} (h : bQuery z (lev z 60).o l = .ok q r) (z' : Nat) {P : List Sel} (hP : P.length ≤ 4) {l' : List Tok} (hl : l'.map stp = l.map stp) :
    (P.length + q.sels.length ≤ 4 → ∃ r', tailQ z' (lev z' 60).o P l' = .ok ⟨P ++ q.sels, q.order⟩ r') ∧ (4 < P.length + q.sels.length → ∃ a, tailQ z' (lev z' 60).o P l' = .err 5 a) := by
  obtain ⟨s, r1, e1, e2⟩ := bind_eq_ok h
  obtain ⟨ss, r2, e3, e4⟩ := bind_eq_ok e2
  obtain ⟨o, r3, e5, e6⟩ := bind_eq_ok e4
  cases r3 with
  | cons t r3 => cases e6
  | nil =>
    cases e6
    dsimp only
    have hge := (selsF_least _ _ _ _ _ e3).1
    rw [List.length_singleton] at hge
    by_cases h4 : P.length = 4
    · refine ⟨fun hh => absurd hh (by omega), fun _ => ?_⟩
      refine ⟨hAt z' l', ?_⟩
      unfold tailQ
      rw [h4, bSel_full (by rw [sees_map hl]; exact bSel_sees e1)]
      rfl
    · obtain ⟨r1', k1, k2⟩ := ext_sel stopper_nil z z' (lev_shr z 60).o (lev_shr z' 60).o (ext_lev stopper_nil z z' 60 60 (Nat.le_refl _)).o (a' := P.length) h4 _ _ _ _ (ap_nil.2 hl) e1
      obtain ⟨i1, i2⟩ := sels_behind z z' P _ [s] r1 r1' ss r2 (Nat.le_refl _) (ap_nil.1 k2) e3 (by rw [List.length_singleton]; omega)
      unfold tailQ
      rw [k1, bind_ok]
      refine ⟨fun hh => ?_, fun hh => ?_⟩
      · obtain ⟨r2', k3, k4⟩ := i1 hh
        rw [k4, bind_ok]
        obtain ⟨r3', k5, k6⟩ := ext_order z z' _ _ _ _ (ap_nil.2 k3) e5
        rw [k5, bind_ok]
        obtain rfl : r3' = [] := by simpa using ap_nil.1 k6
        exact ⟨[], rfl⟩
      · obtain ⟨a, k4⟩ := i2 hh
        exact ⟨a, by rw [k4]; rfl⟩
theorem tail_ahead {z z' : Nat} {P : List Sel} (hP : P.length ≤ 4) {l l' r' : List Tok} {q' : Qu} (hl : l'.map stp = l.map stp) (h : tailQ z' (lev z' 60).o P l' = .ok q' r') : ∃ q r, bQuery z (lev z 60).o l = .ok q r := by
  obtain ⟨s, r1, e1, e2⟩ := bind_eq_ok h
  obtain ⟨ss, r2, e3, e4⟩ := bind_eq_ok e2
  obtain ⟨o, r3, e5, e6⟩ := bind_eq_ok e4
  cases r3 with
  | cons t r3 => cases e6
  | nil =>
    have h4 := bSel_four e1
    obtain ⟨r1', k1, k2⟩ := ext_sel stopper_nil z' z (lev_shr z' 60).o (lev_shr z 60).o (ext_lev stopper_nil z' z 60 60 (Nat.le_refl _)).o (a' := 0) (by decide) _ _ _ _ (ap_nil.2 hl.symm) e1
    obtain ⟨x, r2', k3, k4⟩ := sels_ahead z z' P _ [s] r1' r1 ss r2 (Nat.le_refl _) (ap_nil.1 k2).symm e3 (by rw [List.length_singleton]; omega)
    obtain ⟨r3', k5, k6⟩ := ext_order z' z _ _ _ _ (ap_nil.2 k3) e5
    obtain rfl : r3' = [] := by simpa using ap_nil.1 k6
    refine ⟨⟨x, o⟩, [], ?_⟩
    unfold bQuery
    rw [k1, bind_ok, k4, bind_ok, k5, bind_ok]
    rfl
theorem parseS_of {s : Bs} {L : List Tok} (h : lexL s 0 0 = .ok L) (hs : s.length ≤ 2000) : parseS s = match bQuery s.length (lev s.length 60).o L with | .err e a => .err e a | .ok q _ => .ok q := by
  unfold parseS lexS
  rw [if_neg (by omega), h]
  rfl
theorem parseS_bad {s : Bs} {e a : Nat} (h : lexL s 0 0 = .err e a) (hs : s.length ≤ 2000) : parseS s = .err e a := by
  unfold parseS lexS
  rw [if_neg (by omega), h]

/-- UNION ALL -/
def unionS : Bs := [85, 78, 73, 79, 78, 32, 65, 76, 76]
theorem union_lex : lexL unionS 0 0 = .ok [⟨1, 0, 0, kwUnion⟩, ⟨1, 0, 6, kwAll⟩] := by rfl
theorem two_cons {X : List Tok} {a b : Tok} (h : X.map stp = [a, b].map stp) : ∃ a' b', X = [a', b'] ∧ stp a' = stp a ∧ stp b' = stp b := by
  obtain ⟨a', r, rfl, h1, h2⟩ := map_cons_inv h
  obtain ⟨b', r2, rfl, h3, h4⟩ := map_cons_inv h2
  obtain rfl : r2 = [] := by simpa using h4
  exact ⟨a', b', rfl, h1, h3⟩
theorem stopper_map {m m' : List Tok} (h : m'.map stp = m.map stp) (hm : Stopper m) : Stopper m' := by
  refine ⟨fun s hs => by rw [sees_map h]; exact hm.sees s hs, fun t r e => ?_⟩
  subst e
  obtain ⟨t0, r0, rfl, h1, -⟩ := map_cons_inv h.symm
  rw [← (stp_inj h1).1]
  exact hm.kd _ _ rfl
/-- The tokens of a text that may be read, of a blank, of others behind it. -/
theorem lex_pair {s l t : Bs} {A B : List Tok} (hA : lexL s 0 0 = .ok A) (hB : lexL l 0 0 = .ok B) : (∃ B' pos cnt, cnt ≤ 400 ∧ B'.map stp = B.map stp ∧ lexL (s ++ 32 :: (l ++ 32 :: t)) 0 0 = (lexL t pos cnt).pre (A ++ B')) ∨ ∃ a, lexL (s ++ 32 :: (l ++ 32 :: t)) 0 0 = .err 5 a := by
  have h1 := lexL_most s 0 0 A (by decide) hA
  rw [lexL_then rfl _ _ _ _ _ hA]
  rcases lex_seq (Stop.blank (c := 32) rfl) hB t (0 + s.length + 1) (cnt := 0 + A.length) (by omega) with ⟨B', k1, -, k3, k4⟩ | ⟨a, k⟩
  · left
    refine ⟨B', 0 + s.length + 1 + l.length + 1, 0 + A.length + B'.length, k3, k1, ?_⟩
    rw [k4, lexL_blank rfl]
    cases lexL t (0 + s.length + 1 + l.length + 1) (0 + A.length + B'.length) with
    | ok L => simp [Res.pre]
    | err e a => rfl
  · right
    exact ⟨a, by rw [k]; rfl⟩
theorem parse_alls {s t : Bs} {a : Qu} (h1 : s.length ≤ 900) (h2 : t.length ≤ 900) (ha : parseS s = .ok a) :
    (∀ b, a.order = [] → parseS t = .ok b → (a.sels.length + b.sels.length ≤ 4 ∧ parseS (s ++ 32 :: (unionS ++ 32 :: t)) = .ok ⟨a.sels ++ b.sels, b.order⟩) ∨ ∃ p, parseS (s ++ 32 :: (unionS ++ 32 :: t)) = .err 5 p) ∧
    (∀ e p, parseS t = .err e p → ∃ e' p', parseS (s ++ 32 :: (unionS ++ 32 :: t)) = .err e' p') := by
  have hlen : (s ++ 32 :: (unionS ++ 32 :: t)).length ≤ 2000 := by simp [unionS]; omega
  obtain ⟨A, lA, -, qA⟩ := parseS_inv ha
  obtain ⟨okA, -⟩ := parseS_ok ha
  rcases lex_pair (t := t) lA union_lex with ⟨B', pos, cnt, hc, hB, hu⟩ | ⟨p, hu⟩
  rotate_left
  · rw [parseS_bad hu hlen]
    exact ⟨fun _ _ _ => .inr ⟨p, rfl⟩, fun _ _ _ => ⟨_, _, rfl⟩⟩
  obtain ⟨u1, u2, rfl, hu1, hu2⟩ := two_cons hB
  have hw1 : hSees kwUnion [u1] = true := by rw [sees_stp hu1 kwUnion [] []]; rfl
  -- What the whole is, if t may be read by tokens.
  have key : ∀ (T : List Tok) (z' : Nat), ∃ m' , m'.map stp = (u1 :: u2 :: T).map stp ∧ (a.order = [] → bQuery z' (lev z' 60).o (A ++ [u1, u2] ++ T) = (selsW z' (lev z' 60).o a.sels m').bind fun ss r2 => (bOrder z' r2).bind fun o r3 => bEnd ⟨ss, o⟩ r3) ∧ (a.order ≠ [] → bQuery z' (lev z' 60).o (A ++ [u1, u2] ++ T) = bEnd a m') := by
    intro T z'
    have hS : Stopper (u1 :: u2 :: T) := stopper_of (by rw [(stp_inj hu1).1]; decide) (by rw [(stp_inj hu1).2.2]; decide)
    exact query_more qA hS z' (l' := A ++ [u1, u2] ++ T) (by unfold Ap; simp)
  have key2 : ∀ (T : List Tok) (z' : Nat), a.order = [] → ∃ T', T'.map stp = T.map stp ∧ bQuery z' (lev z' 60).o (A ++ [u1, u2] ++ T) = tailQ z' (lev z' 60).o a.sels T' := by
    intro T z' ho
    obtain ⟨m', k1, k2, -⟩ := key T z'
    obtain ⟨v1, m2, rfl, k3, k4⟩ := map_cons_inv k1
    obtain ⟨v2, T', rfl, k5, k6⟩ := map_cons_inv k4
    refine ⟨T', k6, ?_⟩
    rw [k2 ho]
    have w1 : hSees kwUnion (v1 :: v2 :: T') = true := by rw [sees_stp (k3.trans hu1) kwUnion _ []]; rfl
    have w2 : hSees kwAll (v2 :: T') = true := by rw [sees_stp (k5.trans hu2) kwAll _ []]; rfl
    unfold tailQ
    cases hb : bSel z' (lev z' 60).o a.sels.length T' with
    | err e p => rw [selsW_err w1 w2 hb]; rfl
    | ok x r => rw [selsW_some (lev_shr z' 60).o w1 w2 hb]; rfl
  constructor
  · intro b ho hb
    obtain ⟨B, lB, -, qB⟩ := parseS_inv hb
    rcases lex_last lB pos hc with ⟨T, k1, k2⟩ | ⟨p, k⟩
    rotate_left
    · rw [k] at hu
      rw [parseS_bad hu hlen]
      exact .inr ⟨p, rfl⟩
    · rw [k2] at hu
      rw [parseS_of hu hlen]
      generalize (s ++ 32 :: (unionS ++ 32 :: t)).length = z'
      obtain ⟨T', k3, k4⟩ := key2 T z' ho
      rw [k4]
      obtain ⟨i1, i2⟩ := tail_behind qB z' (P := a.sels) okA.sels.2 (k3.trans k1)
      by_cases h4 : a.sels.length + b.sels.length ≤ 4
      · obtain ⟨r', k5⟩ := i1 h4
        rw [k5]
        exact .inl ⟨h4, rfl⟩
      · obtain ⟨p, k5⟩ := i2 (by omega)
        rw [k5]
        exact .inr ⟨p, rfl⟩
  · intro e p hb
    cases hl : lexL t pos cnt with
    | err e' p' =>
      rw [hl] at hu
      rw [parseS_bad hu hlen]
      exact ⟨_, _, rfl⟩
    | ok T =>
      rw [hl] at hu
      rw [parseS_of hu hlen]
      generalize (s ++ 32 :: (unionS ++ 32 :: t)).length = z'
      cases hq : bQuery z' (lev z' 60).o (A ++ [u1, u2] ++ T) with
      | err e' p' => exact ⟨_, _, rfl⟩
      | ok q' r' =>
        exfalso
        by_cases ho : a.order = []
        · obtain ⟨T', k3, k4⟩ := key2 T z' ho
          rw [k4] at hq
          cases hl0 : lexL t 0 0 with
          | err e0 p0 => exact lex_not hl0 pos hc T hl
          | ok T0 =>
            have h5 := lexL_fewer t pos 0 cnt T (Nat.zero_le _) hc hl
            obtain ⟨T1, h6, h7, -⟩ := lexL_else hl0 pos
            have h8 := h5.symm.trans h6
            cases h8
            obtain ⟨q, r, h9⟩ := tail_ahead (z := t.length) (l := T0) okA.sels.2 (k3.trans h7) hq
            rw [parseS_of hl0 (by omega), h9] at hb
            cases hb
        · obtain ⟨m', k1, -, k2⟩ := key T z'
          rw [k2 ho] at hq
          obtain ⟨v1, m2, rfl, -, -⟩ := map_cons_inv k1
          cases hq

end Go.Proofs.YtgmmbfcjjgehoaaGreatDoor

namespace Go.Proofs.YtgmmbfcjjgehoaaGreatDoor

/-- One key as it is written: two digits; and desc. -/
def keyS (x : Nat × Bool) : Bs := [(48 + x.1 / 10).toUInt8, (48 + x.1 % 10).toUInt8] ++ if x.2 then [32, 100, 101, 115, 99] else []
def keyT (x : Nat × Bool) : List (Nat × Nat × Bs) := (3, x.1, []) :: if x.2 then [(1, 0, kwDesc)] else []
def keysS : List (Nat × Bool) → Bs
  | [] => []
  | [x] => keyS x
  | x :: y :: r => keyS x ++ 44 :: (32 :: keysS (y :: r))
def keysT : List (Nat × Bool) → List (Nat × Nat × Bs)
  | [] => []
  | [x] => keyT x
  | x :: y :: r => keyT x ++ (6, 0, [44]) :: keysT (y :: r)
theorem keysS_more (x : Nat × Bool) : ∀ (L : List (Nat × Bool)), L ≠ [] → keysS (L ++ [x]) = keysS L ++ 44 :: 32 :: keyS x
  | [], h => absurd rfl h
  | [y], _ => rfl
  | y :: u :: r, _ => by
    show keyS y ++ 44 :: (32 :: keysS (u :: r ++ [x])) = (keyS y ++ 44 :: (32 :: keysS (u :: r))) ++ 44 :: 32 :: keyS x
    rw [keysS_more x (u :: r) (by simp)]
    simp
theorem keysS_len : ∀ (L : List (Nat × Bool)), (keysS L).length ≤ 9 * L.length
  | [] => by simp [keysS]
  | [x] => by simp [keysS, keyS]; split <;> simp
  | x :: y :: r => by
    have := keysS_len (y :: r)
    have h2 : (keyS x).length ≤ 7 := by simp [keyS]; split <;> simp
    show (keyS x ++ 44 :: (32 :: keysS (y :: r))).length ≤ _
    simp only [List.length_append, List.length_cons] at this ⊢
    omega
def okRes (r : Res) (T : List (Nat × Nat × Bs)) : Bool := match r with
  | .ok L => L.map stp == T
  | .err _ _ => false
theorem okRes_ok {r : Res} {T : List (Nat × Nat × Bs)} (h : okRes r T = true) : ∃ L, r = .ok L ∧ L.map stp = T := by
  cases r with
  | ok L => exact ⟨L, rfl, by simpa [okRes] using h⟩
  | err e a => cases h
theorem key_all : ∀ k : Fin 100, (okRes (lexL (keyS (k.val, true)) 0 0) (keyT (k.val, true)) && okRes (lexL (keyS (k.val, false)) 0 0) (keyT (k.val, false))) = true := by decide +kernel
theorem key_lex (x : Nat × Bool) (h : x.1 < 100) : ∃ L, lexL (keyS x) 0 0 = .ok L ∧ L.map stp = keyT x := by
  have := key_all ⟨x.1, h⟩
  rw [Bool.and_eq_true] at this
  obtain ⟨k, d⟩ := x
  cases d with
  | true => exact okRes_ok this.1
  | false => exact okRes_ok this.2
theorem keyT_len (x : Nat × Bool) : (keyT x).length ≤ 2 := by simp [keyT]; split <;> simp
theorem keysT_len : ∀ (L : List (Nat × Bool)), (keysT L).length ≤ 3 * L.length
  | [] => by simp [keysT]
  | [x] => by have := keyT_len x; simp [keysT]; omega
  | x :: y :: r => by
    have := keysT_len (y :: r)
    have h2 := keyT_len x
    show (keyT x ++ (6, 0, [44]) :: keysT (y :: r)).length ≤ _
    simp only [List.length_append, List.length_cons] at this ⊢
    omega
theorem stop_comma : Stop 44 := ⟨by decide, by decide, by decide, by decide, by decide⟩
theorem keys_lex : ∀ (L : List (Nat × Bool)), (∀ x ∈ L, x.1 < 100) → L.length ≤ 8 → ∃ K, lexL (keysS L) 0 0 = .ok K ∧ K.map stp = keysT L
  | [], _, _ => ⟨[], rfl, rfl⟩
  | [x], h, _ => key_lex x (h x (by simp))
  | x :: y :: r, h, hl => by
    obtain ⟨K, h1, h2⟩ := keys_lex (y :: r) (fun z hz => h z (by simp [hz] )) (by simp at hl ⊢; omega)
    obtain ⟨A, h3, h4⟩ := key_lex x (h x (by simp))
    have hA := congrArg List.length h4
    rw [List.length_map] at hA
    have hA2 := keyT_len x
    have hK := congrArg List.length h2
    rw [List.length_map] at hK
    have hK2 := keysT_len (y :: r)
    show ∃ K, lexL (keyS x ++ 44 :: (32 :: keysS (y :: r))) 0 0 = .ok K ∧ K.map stp = keyT x ++ (6, 0, [44]) :: keysT (y :: r)
    rw [lexL_stop stop_comma _ _ _ _ _ h3]
    have h5 : one (44 :: 32 :: keysS (y :: r)) = .tok 6 0 [44] 1 := rfl
    rw [lexL_tok rfl h5, if_neg (by omega), show (44 :: 32 :: keysS (y :: r)).drop 1 = 32 :: keysS (y :: r) from rfl, lexL_blank rfl]
    obtain ⟨K', h6, h7, h8⟩ := lexL_else h1 (0 + (keyS x).length + 1 + 1)
    rw [(lexL_count _ _ 0 (0 + A.length + 1) K' (Nat.zero_le _) (by omega) h6).1 (by simp only [List.length_cons] at hK2 hl; omega)]
    exact ⟨A ++ ⟨6, 0, 0 + (keyS x).length, [44]⟩ :: K', rfl, by rw [List.map_append, List.map_cons, h4, h7, h2]; rfl⟩

def keyK (x : Nat × Bool) : Ky := ⟨(x.1 : Int) - 1, x.2⟩
theorem key_one (z : Nat) (x : Nat × Bool) (m : List (Nat × Nat × Bs)) (l : List Tok) (h : l.map stp = keyT x ++ m) (hm : ∀ t r, m = t :: r → t.2.2 ≠ kwDesc) : ∃ r, bKey z l = .ok (keyK x) r ∧ r.map stp = m := by
  obtain ⟨k, d⟩ := x
  cases l with
  | nil => cases h
  | cons t r =>
    simp only [keyT, List.map_cons, List.cons_append, List.cons.injEq] at h
    obtain ⟨h1, h2⟩ := h
    simp only [stp, Prod.mk.injEq] at h1
    obtain ⟨h3, h4, h5⟩ := h1
    simp only [bKey, h3, if_true]
    cases d with
    | true =>
      simp only [if_true, List.cons_append, List.nil_append] at h2
      cases r with
      | nil => cases h2
      | cons u r =>
        simp only [List.map_cons, List.cons.injEq] at h2
        obtain ⟨h6, h7⟩ := h2
        have : hSees kwDesc (u :: r) = true := by
          simp only [stp, Prod.mk.injEq] at h6
          rw [sees_eq, h6.1, h6.2.2]; rfl
        rw [this, if_pos rfl, h4]
        exact ⟨r, rfl, h7⟩
    | false =>
      simp only [Bool.false_eq_true, if_false, List.nil_append] at h2
      have : hSees kwDesc r = false := by
        cases r with
        | nil => rfl
        | cons u r =>
          rw [sees_eq]
          cases hb : ((u.kd == 1 || u.kd == 6) && u.s == kwDesc) with
          | false => rfl
          | true =>
            rw [Bool.and_eq_true, beq_iff_eq] at hb
            exact (hm _ _ h2.symm hb.2).elim
      rw [this, h4]
      exact ⟨r, rfl, h2⟩
theorem keys_more (z : Nat) : ∀ (L : List (Nat × Bool)) (x : Nat × Bool) (acc : List Ky) (l : List Tok), l.map stp = (6, 0, [44]) :: keysT (x :: L) → acc.length + L.length + 1 ≤ 8 → listW z (bKey z) acc l = .ok (acc ++ (x :: L).map keyK) []
  | L, x, acc, l, h, h8 => by
    cases l with
    | nil => cases h
    | cons t r =>
      simp only [List.map_cons, List.cons.injEq] at h
      obtain ⟨h1, h2⟩ := h
      have hs : hSees [44] (t :: r) = true := by
        simp only [stp, Prod.mk.injEq] at h1
        rw [sees_eq, h1.1, h1.2.2]; rfl
      cases L with
      | nil =>
        obtain ⟨r', k1, k2⟩ := key_one z x [] r (by rw [h2]; exact (List.append_nil _).symm) (fun _ _ h => by cases h)
        obtain rfl : r' = [] := by simpa using k2
        rw [listW_some (bKey_shr z).keep hs (by omega) k1]
        exact listW_none rfl
      | cons y L =>
        obtain ⟨r', k1, k2⟩ := key_one z x ((6, 0, [44]) :: keysT (y :: L)) r h2 (fun t r h => by cases h; show ([44] : Bs) ≠ kwDesc; decide)
        rw [listW_some (bKey_shr z).keep hs (by omega) k1, keys_more z L y (acc ++ [keyK x]) r' k2 (by simp at h8 ⊢; omega)]
        simp
theorem keys_read (z : Nat) (x : Nat × Bool) (L : List (Nat × Bool)) (l : List Tok) (h : l.map stp = keysT (x :: L)) (h8 : L.length + 1 ≤ 8) : listP z (bKey z) l = .ok ((x :: L).map keyK) [] := by
  unfold listP
  cases L with
  | nil =>
    obtain ⟨r', k1, k2⟩ := key_one z x [] l (by rw [h]; exact (List.append_nil _).symm) (fun _ _ h => by cases h)
    obtain rfl : r' = [] := by simpa using k2
    rw [k1, bind_ok]
    exact listW_none rfl
  | cons y L =>
    obtain ⟨r', k1, k2⟩ := key_one z x ((6, 0, [44]) :: keysT (y :: L)) l h (fun t r h => by cases h; show ([44] : Bs) ≠ kwDesc; decide)
    rw [k1, bind_ok, keys_more z L y [keyK x] r' k2 (by simp at h8 ⊢; omega)]
    rfl
/-- ORDER BY -/
def orderS : Bs := [79, 82, 68, 69, 82, 32, 66, 89]
theorem order_lex : lexL orderS 0 0 = .ok [⟨1, 0, 0, kwOrder⟩, ⟨1, 0, 6, kwBy⟩] := by rfl
theorem parse_order {s : Bs} {a : Qu} (h1 : s.length ≤ 900) (ha : parseS s = .ok a) (ho : a.order = []) (x : Nat × Bool) (L : List (Nat × Bool)) (h8 : L.length + 1 ≤ 8) (hk : ∀ y ∈ x :: L, y.1 < 100) :
    parseS (s ++ 32 :: (orderS ++ 32 :: keysS (x :: L))) = .ok ⟨a.sels, (x :: L).map keyK⟩ ∨ ∃ p, parseS (s ++ 32 :: (orderS ++ 32 :: keysS (x :: L))) = .err 5 p := by
  have hlen : (s ++ 32 :: (orderS ++ 32 :: keysS (x :: L))).length ≤ 2000 := by
    have := keysS_len (x :: L)
    simp only [List.length_cons] at this
    simp [orderS]
    omega
  obtain ⟨A, lA, -, qA⟩ := parseS_inv ha
  obtain ⟨K, lK, mK⟩ := keys_lex (x :: L) hk h8
  rcases lex_pair (t := keysS (x :: L)) lA order_lex with ⟨B', pos, cnt, hc, hB, hu⟩ | ⟨p, hu⟩
  rotate_left
  · rw [parseS_bad hu hlen]
    exact .inr ⟨p, rfl⟩
  obtain ⟨u1, u2, rfl, hu1, hu2⟩ := two_cons hB
  rcases lex_last lK pos hc with ⟨T, k1, k2⟩ | ⟨p, k⟩
  rotate_left
  · rw [k] at hu
    rw [parseS_bad hu hlen]
    exact .inr ⟨p, rfl⟩
  rw [k2] at hu
  rw [parseS_of hu hlen]
  generalize (s ++ 32 :: (orderS ++ 32 :: keysS (x :: L))).length = z'
  have hS : Stopper (u1 :: u2 :: T) := stopper_of (by rw [(stp_inj hu1).1]; decide) (by rw [(stp_inj hu1).2.2]; decide)
  obtain ⟨m', k3, k4, -⟩ := query_more qA hS z' (l' := A ++ [u1, u2] ++ T) (by unfold Ap; simp)
  obtain ⟨v1, m2, rfl, k5, k6⟩ := map_cons_inv k3
  obtain ⟨v2, T', rfl, k7, k8⟩ := map_cons_inv k6
  have w0 : hSees kwUnion (v1 :: v2 :: T') = false := by rw [sees_stp (k5.trans hu1) kwUnion _ []]; rfl
  have w1 : hSees kwOrder (v1 :: v2 :: T') = true := by rw [sees_stp (k5.trans hu1) kwOrder _ []]; rfl
  have w2 : hSees kwBy (v2 :: T') = true := by rw [sees_stp (k7.trans hu2) kwBy _ []]; rfl
  have w3 : bOrder z' (v1 :: v2 :: T') = .ok ((x :: L).map keyK) [] := by
    unfold bOrder need
    rw [w1, if_pos rfl, List.tail_cons, w2, if_pos rfl]
    exact keys_read z' x L T' (by rw [k8, k1, mK]) h8
  left
  rw [k4 ho, selsW_none w0, bind_ok, w3]
  rfl

end Go.Proofs.YtgmmbfcjjgehoaaGreatDoor

namespace Go.Proofs.YtgmmbfcjjgehoaaGreatDoor

mutual
def Ex.two : Ex → Bool
  | .mk _ _ _ _ _ _ l => decide (l.length ≤ 2) && twoL l
def twoL : List Ex → Bool
  | [] => true
  | x :: r => x.two && twoL r
end
theorem twoL_of : ∀ {l : List Ex}, (∀ x ∈ l, x.two = true) → twoL l = true
  | [], _ => by rw [twoL]
  | x :: r, h => by rw [twoL, h x (by simp), twoL_of fun y hy => h y (by simp [hy])]; rfl
theorem twoL_mem : ∀ {l : List Ex}, twoL l = true → ∀ x ∈ l, x.two = true
  | [], _, x, hx => by cases hx
  | y :: r, h, x, hx => by
    rw [twoL, Bool.and_eq_true] at h
    rcases List.mem_cons.1 hx with rfl | hx
    · exact h.1
    · exact twoL_mem h.2 x hx
theorem two_parts {op : Int} {v : Val} {rel col n : Int} {s : ByteArray} {l : List Ex} (h : (Ex.mk op v rel col n s l).two = true) : l.length ≤ 2 ∧ ∀ x ∈ l, x.two = true := by
  rw [Ex.two, Bool.and_eq_true] at h
  exact ⟨by simpa using h.1, twoL_mem h.2⟩
theorem two_leaf (op : Int) (v : Val) (rel col n : Int) (s : ByteArray) : (Ex.mk op v rel col n s []).two = true := by rw [Ex.two, twoL]; rfl
theorem two_one {op : Int} {a : Ex} (h : a.two = true) : (exOne op a).two = true := by rw [exOne, Ex.two, twoL, twoL, h]; rfl
theorem two_two {op : Int} {a b : Ex} (h : a.two = true) (h2 : b.two = true) : (exTwo op a b).two = true := by rw [exTwo, Ex.two, twoL, twoL, twoL, h, h2]; rfl

/-- All that is read has P. -/
def Gives {α : Type} (P : α → Prop) (f : Rd α) : Prop := ∀ l x r, f l = .ok x r → P x
theorem gives_bind {α β : Type} {P : α → Prop} {Q : β → Prop} {f : Rd α} {g : α → Rd β} (h1 : Gives P f) (h2 : ∀ x, P x → Gives Q (g x)) : Gives Q (fun l => (f l).bind g) := fun l x r e => by
  obtain ⟨y, r1, e1, e2⟩ := bind_eq_ok e
  exact h2 y (h1 _ _ _ e1) _ _ _ e2
theorem gives_map {α β : Type} {P : α → Prop} {Q : β → Prop} {f : Rd α} {g : α → β} (h1 : Gives P f) (h2 : ∀ x, P x → Q (g x)) : Gives Q (fun l => (f l).map g) := fun l x r e => by
  obtain ⟨y, e1, rfl⟩ := map_eq_ok e
  exact h2 y (h1 _ _ _ e1)
theorem gives_need {α : Type} {P : α → Prop} {z : Nat} {s : Bs} {f : Rd α} (h : Gives P f) : Gives P (fun l => need z s l f) := fun l x r e => by
  obtain ⟨t, l', -, -, h2⟩ := need_ok e
  exact h _ _ _ h2
theorem gives_ok {α : Type} {P : α → Prop} {x : α} (h : P x) : Gives P (fun l => PR.ok x l) := fun l y r e => by cases e; exact h
theorem gives_ite {α : Type} {P : α → Prop} {c : List Tok → Bool} {f g : Rd α} (h1 : Gives P f) (h2 : Gives P g) : Gives P (fun l => if c l = true then f l else g l) := fun l x r e => by
  dsimp only at e
  split at e
  · exact h1 _ _ _ e
  · exact h2 _ _ _ e
theorem gives_tail {α : Type} {P : α → Prop} {f : Rd α} (h : Gives P f) : Gives P (fun l => f l.tail) := fun _ _ _ e => h _ _ _ e
abbrev TwoE (x : Ex) : Prop := x.two = true
theorem gives_chainF {one : Rd Ex} (h : Gives TwoE one) (ops : Ops) : ∀ (k : Nat) (e : Ex), TwoE e → Gives TwoE (chainF one ops k e)
  | 0, e, he, l, x, r, h1 => by cases h1; exact he
  | k + 1, e, he, l, x, r, h1 => by
    unfold chainF at h1
    split at h1
    · cases h1; exact he
    · obtain ⟨y, r1, e1, e2⟩ := bind_eq_ok h1
      exact gives_chainF h ops k _ (two_two he (h _ _ _ e1)) _ _ _ e2
theorem gives_chain {one : Rd Ex} (h : Gives TwoE one) (ops : Ops) : Gives TwoE (chain one ops) := gives_bind h fun _ hx _ _ _ e => gives_chainF h ops _ _ hx _ _ _ e
theorem gives_sum {sg : Rd Ex} (h : Gives TwoE sg) : Gives TwoE (bSum sg) := gives_chain (gives_chain h _) _
theorem gives_test (z : Nat) {sg : Rd Ex} (h : Gives TwoE sg) : Gives TwoE (bTest z sg) := gives_bind (gives_sum h) fun x hx l y r e => by
  split at e
  · exact gives_ite (P := TwoE) (c := hSees kwNot) (gives_tail (gives_need (P := TwoE) (z := z) (s := kwNull) (gives_ok (P := TwoE) (x := exOne 17 (exOne 18 x)) (two_one (two_one hx))))) (gives_need (P := TwoE) (z := z) (s := kwNull) (gives_ok (P := TwoE) (x := exOne 18 x) (two_one hx))) _ _ _ e
  · split at e
    · cases e; exact hx
    · obtain ⟨u, e1, rfl⟩ := map_eq_ok e
      exact two_two hx (gives_sum h _ _ _ e1)
theorem gives_col (z : Nat) (s : Bs) : Gives TwoE (bCol z s) := fun l x r e => by
  unfold bCol at e
  split at e
  · split at e
    · cases e
    · split at e
      · cases e; exact two_leaf _ _ _ _ _ _
      · cases e
  · cases e; exact two_leaf _ _ _ _ _ _
theorem gives_atom (z : Nat) {orr : Rd Ex} (h : Gives TwoE orr) : Gives TwoE (bAtom z orr) := fun l x r e => by
  cases l with
  | nil => cases e
  | cons t l =>
    simp only [bAtom] at e
    split at e
    · cases e; exact two_leaf _ _ _ _ _ _
    · split at e
      · cases e; exact two_leaf _ _ _ _ _ _
      · split at e
        · cases e; exact two_leaf _ _ _ _ _ _
        · split at e
          · exact gives_col z _ _ _ _ e
          · split at e
            · cases e; exact two_leaf _ _ _ _ _ _
            · split at e
              · cases e; exact two_leaf _ _ _ _ _ _
              · split at e
                · cases e; exact two_leaf _ _ _ _ _ _
                · split at e
                  · exact gives_bind h (fun x hx => gives_need (z := z) (s := [41]) (gives_ok hx)) _ _ _ e
                  · cases e
structure GivesLev (L : Lev) : Prop where
  o : Gives TwoE L.o
  n : Gives TwoE L.n
  s : Gives TwoE L.s
theorem gives_lev (z : Nat) : ∀ n, GivesLev (lev z n)
  | 0 => ⟨fun _ _ _ h => (by cases h), fun _ _ _ h => (by cases h), fun _ _ _ h => (by cases h)⟩
  | n + 1 =>
    have k := gives_lev z n
    ⟨gives_chain (gives_chain k.n _) _, gives_ite (P := TwoE) (gives_tail (P := TwoE) (gives_map (Q := TwoE) (g := exOne 17) k.n fun _ h => two_one h)) (gives_test z k.s), gives_ite (P := TwoE) (gives_tail (P := TwoE) (gives_map (Q := TwoE) (g := exOne 8) k.s fun _ h => two_one h)) (gives_atom z k.o)⟩
theorem gives_listF {α : Type} {P : α → Prop} (z : Nat) {one : Rd α} (h : Gives P one) : ∀ (k : Nat) (acc : List α), (∀ x ∈ acc, P x) → Gives (fun l => ∀ x ∈ l, P x) (listF z one k acc)
  | 0, acc, ha, l, x, r, e => by cases e; exact ha
  | k + 1, acc, ha, l, x, r, e => by
    unfold listF at e
    split at e
    · split at e
      · cases e
      · obtain ⟨y, r1, e1, e2⟩ := bind_eq_ok e
        refine gives_listF z h k _ (fun u hu => ?_) _ _ _ e2
        rcases List.mem_append.1 hu with hu | hu
        · exact ha u hu
        · rw [List.mem_singleton] at hu
          rw [hu]
          exact h _ _ _ e1
    · cases e; exact ha
theorem gives_list {α : Type} {P : α → Prop} (z : Nat) {one : Rd α} (h : Gives P one) : Gives (fun l => ∀ x ∈ l, P x) (listP z one) := gives_bind h fun x hx _ _ _ e => gives_listF z h _ _ (fun y hy => by rw [List.mem_singleton] at hy; rw [hy]; exact hx) _ _ _ e
abbrev TwoI (x : It) : Prop := x.e.two = true
theorem gives_item (z : Nat) {orr : Rd Ex} (h : Gives TwoE orr) : Gives TwoI (bItem z orr) := fun l x r e => by
  unfold bItem at e
  split at e
  · obtain ⟨y, e1, rfl⟩ := map_eq_ok e
    exact h _ _ _ e1
  · rename_i a _
    refine gives_need (P := TwoI) (z := z) (s := [40]) (f := fun r => if a = 2 ∧ hSees [42] r = true then need z [41] r.tail (fun r2 => PR.ok (It.mk 1 exZ) r2) else (orr r).bind fun x r2 => need z [41] r2 (fun r3 => PR.ok (It.mk a x) r3)) (fun l x r e => ?_) _ _ _ e
    dsimp only at e
    split at e
    · exact gives_need (P := TwoI) (z := z) (s := [41]) (gives_ok (two_leaf _ _ _ _ _ _)) _ _ _ e
    · exact gives_bind h (fun x hx => gives_need (P := TwoI) (z := z) (s := [41]) (gives_ok hx)) _ _ _ e
abbrev TwoF (x : Fr) : Prop := x.on.length ≤ 1 ∧ ∀ y ∈ x.on, y.two = true
theorem gives_table (z : Nat) (kind : Int) (ahead most : Nat) : Gives (fun x => x.on = []) (bTable z kind ahead most) := fun l x r e => by
  cases l with
  | nil => cases e
  | cons t l =>
    simp only [bTable] at e
    split at e
    · split at e
      · cases e
      · cases l with
        | nil => cases e; rfl
        | cons u l =>
          simp only [bAlias] at e
          split at e <;> cases e <;> rfl
    · cases e
theorem gives_tableT (z : Nat) (kind : Int) (ahead most : Nat) : Gives TwoF (bTable z kind ahead most) := fun l x r e => by rw [TwoF, gives_table z kind ahead most l x r e]; exact ⟨by simp, fun y hy => by cases hy⟩
theorem gives_join (z : Nat) {orr : Rd Ex} (h : Gives TwoE orr) (kind : Int) (ahead most : Nat) : Gives TwoF (bJoin z orr kind ahead most) :=
  gives_need (gives_bind (gives_table z kind ahead most) fun f _ => gives_need (gives_map h fun x hx => ⟨by simp, fun y hy => by rw [List.mem_singleton.1 hy]; exact hx⟩))
theorem gives_inner (z : Nat) {orr : Rd Ex} (h : Gives TwoE orr) (ahead : Nat) : Gives TwoF (bInner z orr ahead) := gives_ite (gives_tail (gives_tableT z 0 ahead 4)) (gives_join z h 0 ahead 4)
theorem gives_outer (z : Nat) {orr : Rd Ex} (h : Gives TwoE orr) (ahead : Nat) : Gives TwoF (bOuter z orr ahead) := gives_ite (gives_tail (gives_join z h 1 ahead 2)) (gives_need (gives_join z h 2 ahead 2))
theorem gives_moreF {a b : Bs} {one : Nat → Rd Fr} {P : Fr → Prop} (h : ∀ n, Gives P (one n)) : ∀ (k : Nat) (acc : List Fr), (∀ x ∈ acc, P x) → Gives (fun l => ∀ x ∈ l, P x) (moreF a b one k acc)
  | 0, acc, ha, l, x, r, e => by cases e; exact ha
  | k + 1, acc, ha, l, x, r, e => by
    unfold moreF at e
    split at e
    · obtain ⟨y, r1, e1, e2⟩ := bind_eq_ok e
      refine gives_moreF h k _ (fun u hu => ?_) _ _ _ e2
      rcases List.mem_append.1 hu with hu | hu
      · exact ha u hu
      · rw [List.mem_singleton] at hu
        rw [hu]
        exact h _ _ _ _ e1
    · cases e; exact ha
theorem gives_tables (z : Nat) {orr : Rd Ex} (h : Gives TwoE orr) : Gives (fun l => ∀ x ∈ l, TwoF x) (bTables z orr) :=
  gives_bind (gives_tableT z 0 0 4) fun f hf => gives_bind (P := fun l => ∀ x ∈ l, TwoF x) (fun l x r e => gives_moreF (fun n => gives_inner z h n) _ _ (fun y hy => by rw [List.mem_singleton] at hy; rw [hy]; exact hf) l x r e) fun c hc => gives_map (P := fun l => ∀ x ∈ l, TwoF x) (fun l x r e => gives_moreF (fun n => gives_outer z h n) _ _ (fun y hy => by cases hy) l x r e) fun o ho x hx => by
    rcases List.mem_append.1 hx with hx | hx
    · exact hc x hx
    · exact ho x hx
structure TwoS (s : Sel) : Prop where
  items : ∀ x ∈ s.items, TwoI x
  froms : ∀ x ∈ s.froms, TwoF x
  where_ : ∀ x ∈ s.where_, TwoE x
  group : ∀ x ∈ s.group, TwoE x
theorem gives_sel (z : Nat) {orr : Rd Ex} (h : Gives TwoE orr) (ahead : Nat) : Gives TwoS (bSel z orr ahead) := fun l x r e => by
  unfold bSel at e
  obtain ⟨t, l', -, -, e⟩ := need_ok e
  split at e
  · cases e
  · have hw : Gives (fun l => ∀ x ∈ l, TwoE x) (bWhere orr) := gives_ite (gives_tail (gives_map h fun x hx y hy => by rw [List.mem_singleton.1 hy]; exact hx)) (gives_ok fun x hx => by cases hx)
    have hg : Gives (fun l => ∀ x ∈ l, TwoE x) (bGroup z orr) := gives_ite (gives_tail (gives_need (gives_list z h))) (gives_ok fun x hx => by cases hx)
    exact gives_bind (gives_list z (gives_item z h)) (fun i hi => gives_need (z := z) (s := kwFrom) (gives_bind (gives_tables z h) fun f hf => gives_bind hw fun w hw => gives_map (g := fun g => Sel.mk (bDist l').1 i f w g) hg fun g hg => TwoS.mk hi hf hw hg)) (bDist l').2 _ _ e
theorem gives_selsF (z : Nat) {orr : Rd Ex} (h : Gives TwoE orr) : ∀ (k : Nat) (acc : List Sel), (∀ x ∈ acc, TwoS x) → Gives (fun l => ∀ x ∈ l, TwoS x) (selsF z orr k acc)
  | 0, acc, ha, l, x, r, e => by cases e; exact ha
  | k + 1, acc, ha, l, x, r, e => by
    unfold selsF at e
    split at e
    · obtain ⟨t, l', -, -, e0⟩ := need_ok e
      obtain ⟨y, r1, e1, e2⟩ := bind_eq_ok e0
      refine gives_selsF z h k _ (fun u hu => ?_) _ _ _ e2
      rcases List.mem_append.1 hu with hu | hu
      · exact ha u hu
      · rw [List.mem_singleton] at hu
        rw [hu]
        exact gives_sel z h _ _ _ _ e1
    · cases e; exact ha
theorem gives_query (z : Nat) {orr : Rd Ex} (h : Gives TwoE orr) : Gives (fun q => ∀ x ∈ q.sels, TwoS x) (bQuery z orr) :=
  gives_bind (gives_sel z h 0) fun s hs => gives_bind (P := fun l => ∀ x ∈ l, TwoS x) (fun l x r e => gives_selsF z h _ _ (fun y hy => by rw [List.mem_singleton] at hy; rw [hy]; exact hs) l x r e) fun ss hss => gives_bind (P := fun _ => True) (fun _ _ _ _ => trivial) fun o _ l x r e => by
    cases l with
    | nil => cases e; exact hss
    | cons => cases e
theorem parseS_two {s : Bs} {q : Qu} (h : parseS s = .ok q) : ∀ x ∈ q.sels, TwoS x := by
  obtain ⟨L, -, -, hq⟩ := parseS_inv h
  exact gives_query _ (gives_lev _ 60).o _ _ _ hq

end Go.Proofs.YtgmmbfcjjgehoaaGreatDoor
