/- A database with one thing amiss is none. No program is walked here. -/
import Derived.Test.YtkeekefekajfnaaStC
namespace Go.Proofs.Ytkeekefekajfnaa
open Go.RowKit
set_option maxRecDepth 100000

/-- A table that is none makes its list none. -/
theorem spoil_set {l : List Tab} {i : Nat} {t : Tab} (hi : i < l.length) (h : ¬ TabP t) : ¬ TabsP (l.set i t) := fun hT =>
  h (hT.2 i t (by rw [List.getElem?_set_self hi])).1
/-- A name that two tables have. -/
theorem spoil_two {l : List Tab} {i : Nat} {t u : Tab} (hi : l[i]? = some u) (h : u.nm = t.nm) : ¬ TabsP (l ++ [t]) := fun hT => by
  have hl := (List.getElem?_eq_some_iff.1 hi).1
  have h1 : (l ++ [t])[l.length]? = some t := by simp
  have h2 : (l ++ [t])[i]? = some u := by rw [List.getElem?_append_left hl]; exact hi
  exact (hT.2 l.length t h1).2 i u hl h2 (by rw [h])
theorem spoil_word {t : Tab} (h : t.nm ∈ wordsL) : ¬ TabP t := fun hT => name_word h hT.1
theorem name_from : (⟨#[102, 114, 111, 109]⟩ : ByteArray) ∈ wordsL := by unfold wordsL; simp
/-- A row that is too short. -/
theorem spoil_row {t : Tab} {r : List Val} (h : t.rows[0]? = some r) (hr : r.length ≠ t.cols.length) : ¬ TabP t := fun hT => hr (hT.2.2.2.2 0 r h).1
/-- A value of no kind. -/
theorem spoil_val {t : Tab} {r : List Val} {v : Val} (h : t.rows[0]? = some r) (hv : r[0]? = some v) (hk : v.right = false) : ¬ TabP t := fun hT => by
  have h1 := hT.2.2.2.2 0 r h
  have h2 := hT.2.1.1
  obtain ⟨c, hc⟩ : ∃ c, t.cols[0]? = some c := ⟨_, List.getElem?_eq_getElem (by omega)⟩
  have := (h1.2 0 v c hv hc).1
  rw [hk] at this
  cases this
theorem four_no (x : Val) (h : x.k = 4) : x.right = false := by
  unfold Val.right
  simp [h]
/-- A name that two columns have. -/
theorem spoil_col {t : Tab} {c : Col} {n : Nat} (h0 : t.cols[0]? = some c) (hn : t.cols[n]? = some c) (hp : 0 < n) : ¬ TabP t := fun hT => (hT.2.2.2.1 n c hn).2.2 0 c hp h0 rfl
/-- A column of no kind. -/
theorem spoil_kind {t : Tab} {c : Col} (h0 : t.cols[0]? = some c) (hk : c.kd = 0) : ¬ TabP t := fun hT => by
  have := (hT.2.2.2.1 0 c h0).2.1.1
  omega

end Go.Proofs.Ytkeekefekajfnaa
