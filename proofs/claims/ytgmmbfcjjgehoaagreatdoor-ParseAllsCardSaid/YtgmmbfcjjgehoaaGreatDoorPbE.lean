/- Calls of Parse as the laws see them: a query, an error's number, a place. -/
import Derived.Test.YtgmmbfcjjgehoaaGreatDoorQaF
namespace Go.Proofs.YtgmmbfcjjgehoaaGreatDoor
open Go.RowKit Go.Deep
set_option maxRecDepth 100000

def PQ.q : PQ → Qu
  | .err _ _ => ⟨[], []⟩
  | .ok q => q
def PQ.e : PQ → Nat
  | .err e _ => e
  | .ok _ => 0
def PQ.at_ : PQ → Nat
  | .err _ a => a
  | .ok _ => 0
theorem QuM.nil (w : World) : QuM w ⟨[], []⟩ none 0 0 none 0 0 := ⟨⟨rfl, Nat.le_refl _, LsM.nil⟩, rfl, Nat.le_refl _, LsM.nil⟩
theorem parse_res (s : ByteArray) (r : PQ) (hr : parseS s.data.toList = r) (w : World) (hG : GV w) (hs : s.size ≤ 9223372036854775807) : Calls Tryz.prog 9 #[.string s] w fun e w' =>
    (∃ qs ns cs qo no co, QuM w' r.q qs ns cs qo no co ∧ e = .returned (.tuple #[.agg #[.slice qs ns cs, .slice qo no co], .int .i64 (r.e : Int), .int .i64 (r.at_ : Int)])) ∧ Below w.heap.size w w' :=
  (parse_any s w hG hs).mono fun e w' h => by
    refine ⟨?_, h.2⟩
    subst hr
    cases hp : parseS s.data.toList with
    | err er a => exact ⟨_, _, _, _, _, _, QuM.nil w', h.1.err hp⟩
    | ok q =>
      obtain ⟨qs, ns, cs, qo, no, co, hm, -, e⟩ := h.1.ok hp
      exact ⟨qs, ns, cs, qo, no, co, hm, e⟩
theorem parse_ne {s : Bs} {er a : Nat} (h : parseS s = .err er a) : er ≠ 0 := by rcases (parseS_err h).1 with h | h | h <;> omega
theorem OkQ.all (s : Bs) : OkQ (parseS s).q := by
  cases h : parseS s with
  | err er a => exact ⟨by show (0 : Nat) ≤ 8; omega, by show (0 : Nat) ≤ 8; omega, fun x hx => by cases hx⟩
  | ok q => exact OkQ.of h
theorem ba_app (s t : ByteArray) : (s ++ t).data.toList = s.data.toList ++ t.data.toList := by rw [ByteArray.data_append, Array.toList_append]
theorem alike_q {a b : PQ} (h : alikeQ a b) : a.q = b.q ∧ a.e = b.e ∧ (a.e = 0 ∨ b.e = 0 → (∃ q, a = .ok q) ∨ ∃ er x y, a = .err er x ∧ b = .err er y ∧ er = 0) := by
  cases a with
  | err e x =>
    cases b with
    | err e' y => have h : e = e' := h; subst h; exact ⟨rfl, rfl, fun h => .inr ⟨e, x, y, rfl, rfl, by rcases h with h | h <;> exact h⟩⟩
    | ok q => exact h.elim
  | ok q =>
    cases b with
    | err e' y => exact h.elim
    | ok q' => have h : q = q' := h; subst h; exact ⟨rfl, rfl, fun _ => .inl ⟨q, rfl⟩⟩

end Go.Proofs.YtgmmbfcjjgehoaaGreatDoor
