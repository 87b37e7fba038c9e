/- Rows that the law builds; an argument's values; values compared. -/
import Derived.Test.YtflbeccfdbjbhaaIxX
import Derived.Test.YtflbeccfdbjbhaaValQ
import Derived.Test.YtflbeccfdbjbhaaStO
namespace Go.Proofs.Ytflbeccfdbjbhaa
open Go.ChangeShapes Go.WideShapes Go.ChangeAt Go.RowKit Go.Joins Go.Deep
set_option maxRecDepth 100000

theorem Try.infoRowX : (Try.prog.info? 22).map (fun i => (i.zero, i.size, i.bytes)) = some (some (.slice none 0 0), 1, 24) := by kernel_rfl

/-- Rows of the call's own, as they are read. -/
theorem Own2.rowsA {w : World} {base : Nat} {v : Value} {L : List (List Val)} (h : Own2 w base 22 24 3 vCell v L) : ∃ q c, v = .slice q L.length c ∧ L.length ≤ c ∧ c ≤ 9223372036854775807 ∧ RowsA w base w.heap.size q L := by
  obtain ⟨K, hK, hl, hin⟩ := h.outer
  obtain ⟨q, c, rfl, h1, h2, _, h4⟩ := hK.arr rawCell_len
  rw [hl] at h1 ⊢
  refine ⟨q, c, rfl, h1, h2, fun i hi => ?_⟩
  obtain ⟨g, off, hq, g1, g2, hc⟩ := h4 i (by omega)
  refine ⟨g, off, hq, g1, g2, fun j x hx => ?_⟩
  obtain ⟨r, hr⟩ : ∃ r, K[j]? = some r := ⟨_, List.getElem?_eq_getElem (by have := (List.getElem?_eq_some_iff.1 hx).1; omega)⟩
  obtain ⟨e1, ho⟩ := hin j r x hr hx
  have hcell := hc j r hr 0 _ rfl
  obtain ⟨q', c', e, k1, k2, _, k4⟩ := ho.arr vCell_len
  simp only [Value.slice.injEq] at e
  obtain ⟨e0, _, e2⟩ := e
  rw [e1, e0, e2] at hcell
  exact ⟨q', c', hcell, k1, k2, v_valsA k4⟩

theorem same_val6 {a b : Val} : (a.k == b.k && a.n == b.n && a.s.toList == b.s.toList) = decide (a.cmp b = 0) := by
  rw [Bool.eq_iff_iff, decide_eq_true_eq]
  have e : (a.k == b.k && a.n == b.n && a.s.toList == b.s.toList) = true ↔ a = b := by
    obtain ⟨k, n, ⟨s⟩⟩ := a
    obtain ⟨l, m, ⟨t⟩⟩ := b
    simp only [Bool.and_eq_true, beq_iff_eq, Val.mk.injEq, ByteArray.toList_eq, ByteArray.mk.injEq, Array.toList_inj, and_assoc]
  rw [e]
  exact ⟨fun h => by rw [h]; exact cmp_self b, cmp_zero⟩
theorem eqIn6 (a b : Val) (w : World) : (Op.equalIn 10000 24 (.agg #[.int .i64 a.k, .int .i64 a.n, .string a.s]) (.agg #[.int .i64 b.k, .int .i64 b.n, .string b.s])).run Try.prog w = .ok (decide (a.cmp b = 0)) w := by
  rw [Try.eqInVal, same_val6]

theorem eql6 (a b : Val) (w : World) : (binOp .eql 24 (.agg #[.int .i64 a.k, .int .i64 a.n, .string a.s]) (.agg #[.int .i64 b.k, .int .i64 b.n, .string b.s])).run Try.prog w = .ok (.bool (decide (a.cmp b = 0))) w := by
  rw [Try.eqlVal, same_val6]

/-- The law's rows: each with x's value at the end. -/
abbrev rowsOf (f : Val → List Val) (l : List Val) : List (List Val) := l.map f
theorem rowsOf_len (f : Val → List Val) (l : List Val) : (rowsOf f l).length = l.length := List.length_map _
theorem rowsOf_col {f : Val → List Val} {col : Nat} (hf : ∀ x, (f x)[col]? = some x) (l : List Val) : colL (rowsOf f l) col = l := by
  unfold colL rowsOf
  rw [List.map_map]
  refine List.map_id'' (fun x => ?_) l
  simp [hf x]

section
variable {H : Type} {enc : TypeId × Value → H}
theorem fit_of {x : Val} (h1 : inR x.k = true) (h2 : inR x.n = true) (h3 : x.s.size ≤ maxLen) : FitV x := ⟨h1, h2, by unfold maxLen at h3; omega⟩
/-- An argument that is a value. -/
theorem open_valx {r : Reach} {b0 base : Nat} {W : World} {spare : Nat → Bool} {held : Bool} {v : Value} {d : DataW H} {p : List MemPlace} (hv : Value.okWide Try.prog W r b0 24 v) (h : DataW.Trod enc Try.prog W base spare held 24 v d p) :
    ∃ x : Val, v = x.v ∧ FitV x := by
  obtain ⟨x, hx, h1, h2, h3⟩ := open_val hv h
  exact ⟨x, hx, fit_of h1 h2 h3⟩
/-- An argument that is a list of values. -/
theorem open_rowx {W : World} {spare : Nat → Bool} {r : Reach} {b0 base : Nat} {v : Value} {d : DataW H} {p : List MemPlace} (hv : Value.okWide Try.prog W r b0 22 v) (h : DataW.Trod enc Try.prog W base spare true 22 v d p) (hz : ∀ n ∈ d.weights Try.prog 22, n ≤ reachBytes) :
    ∃ (q : Option Addr) (l : List Val) (c : Nat), v = .slice q l.length c ∧ l.length ≤ c ∧ c ≤ 9223372036854775807 ∧ ValsA W 0 W.heap.size q l ∧ ∀ x ∈ l, FitV x := by
  obtain ⟨a0, len, cap, rfl⟩ := okWide_slice Try.underlying22 hv
  obtain ⟨fuel, hf⟩ := h
  obtain ⟨q, l, c, h1, h2, h3, _, h5, h6⟩ := open_arr Try.underlying22 Try.cellsVal (by omega) (valC W) FitV hf hz (fun cs y n htr _ g o hk => by
    obtain ⟨x, rfl, e1, e2, e3⟩ := cells_val htr
    exact ⟨x, ⟨hk 0 _ (by omega) rfl, hk 1 _ (by omega) rfl, hk 2 _ (by omega) rfl⟩, fit_of e1 e2 e3⟩)
  simp [Value.cells] at h1
  obtain ⟨rfl, rfl, rfl⟩ := h1
  exact ⟨_, l, _, rfl, h2, h3, h5, h6⟩
end

end Go.Proofs.Ytflbeccfdbjbhaa
