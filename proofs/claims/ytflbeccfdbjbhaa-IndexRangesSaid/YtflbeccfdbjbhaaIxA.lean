/- The index's small functions: whether a value is NULL; a copy of a list of numbers; the comparison of two places. -/
import Derived.Test.YtflbeccfdbjbhaaIxC
import Derived.Test.YtflbeccfdbjbhaaAfter
import Derived.Test.YtflbeccfdbjbhaaFlat
import Derived.Test.YtflbeccfdbjbhaaFlat2
import Derived.Test.YtflbeccfdbjbhaaIsS
import Derived.Deep.OwnRows
namespace Go.Proofs.Ytflbeccfdbjbhaa
open Go.RowKit
open Go.Sort (swp PermIn SortedIn SWO Ins)
set_option maxRecDepth 100000

theorem isNull_any (v : Val) (w : World) : Calls Try.prog 16 #[v.v] w fun e w' => e = .returned (.bool (decide (v.k = 0))) ∧ Below w.heap.size w w' := by
  obtain ⟨k, n, s⟩ := v
  by_cases h : k = 0
  · have hb : (k == 0) = true := by simpa using h
    go_enter Try.func16, Try.ntmps16
    go_wp2
    go_ret
    exact ⟨by simp [h], by (repeat (first | exact ext_refl _ | assumption | (refine ext_alloc ?_ _) | (refine ext_drewN ?_ _) | refine ext_drew ?_ | (refine ext_set (by first | (simp; done) | (simp; omega)) _ ?_) | (refine ext_trans ?_ (by assumption))))⟩
  · have hb : (k == 0) = false := by simpa using h
    go_enter Try.func16, Try.ntmps16
    go_wp2
    go_ret
    exact ⟨by simp [h], by (repeat (first | exact ext_refl _ | assumption | (refine ext_alloc ?_ _) | (refine ext_drewN ?_ _) | refine ext_drew ?_ | (refine ext_set (by first | (simp; done) | (simp; omega)) _ ?_) | (refine ext_trans ?_ (by assumption))))⟩

theorem Try.infoIntX : (Try.prog.info? 3).map (fun i => (i.zero, i.size, i.bytes)) = some (some (.int .i64 0), 1, 8) := by kernel_rfl
abbrev numCell (x : Int) : List Value := [.int .i64 x]
theorem numCell_len (x : Int) : (numCell x).length = 1 := rfl
theorem numCell_one (x : Int) (u : Value) (h : u ∈ numCell x) : u.oneCell' = true := by simp at h; rw [h]; rfl
theorem intsA_num {w : World} {lo hi : Nat} {q : Option Addr} {l : List Int} (h : IntsA w lo hi q l) : ArrA lo hi q 1 l (fun g o x => ∀ (k : Nat) u, (numCell x)[k]? = some u → w.cell? ⟨g, o + k, none⟩ = some u) :=
  ArrA.imp h fun _ _ _ _ _ h k u hk => by
    have : k = 0 := by have := (List.getElem?_eq_some_iff.1 hk).1; simp at this; omega
    subst this
    simp at hk
    subst hk
    exact h
theorem num_intsA {w : World} {lo hi : Nat} {q : Option Addr} {l : List Int} (h : ArrA lo hi q 1 l (fun g o x => ∀ (k : Nat) u, (numCell x)[k]? = some u → w.cell? ⟨g, o + k, none⟩ = some u)) : IntsA w lo hi q l :=
  ArrA.imp h fun _ _ _ _ _ h => h 0 _ rfl
/-- Numbers of the call's own. -/
abbrev OwnN (w : World) (base : Nat) (v : Value) (l : List Int) : Prop := OwnF w base 3 1 numCell v l
theorem OwnF.ints {w : World} {base : Nat} {v : Value} {l : List Int} (h : OwnN w base v l) : ∃ q c, v = .slice q l.length c ∧ OwnInts w base q c l := by
  obtain ⟨q, c, rfl, h1, h2, h3, h4⟩ := h.arr numCell_len
  exact ⟨q, c, rfl, h1, h2, num_intsA h4, fun _ g off e => (h3 g off e).2.2.2⟩
theorem OwnF.made {α : Type} {cells : α → List Value} {sz : Nat} (w : World) (base : Nat) (E : TypeId) (h : base ≤ w.heap.size) : OwnF (w.alloc (.cells #[] E)) base E sz cells (.slice (some ⟨w.heap.size, 0, none⟩) 0 0) [] :=
  ⟨by simp, .inr ⟨w.heap.size, 0, #[], rfl, h, heap_alloc_new w _, Nat.le_refl _, Nat.zero_le _, by simp, by simp⟩⟩

theorem nil_none (c : Nat) (w : World) : (binOp .eql 31 (.slice none 0 c) (.slice none 0 0)).run Try.prog w = .ok (.bool true) w := by kernel_rfl
theorem nil_some (a : Addr) (n c : Nat) (w : World) : (binOp .eql 31 (.slice (some a) n c) (.slice none 0 0)).run Try.prog w = .ok (.bool false) w := by kernel_rfl

set_option maxHeartbeats 1000000 in
theorem clone_any (l : List Int) (p : Option Addr) (c lo hi : Nat) (w : World) (hl : l.length * 8 ≤ 140737488355328) (hR : IntsA w lo hi p l) (hh : hi ≤ w.heap.size) :
    Calls Try.prog 18 #[.slice p l.length c] w fun e w' => (∃ q c', e = .returned (.slice q l.length c') ∧ OwnInts w' w.heap.size q c' l) ∧ Below w.heap.size w w' := by
  cases p with
  | none =>
    have h0 : l = [] := by
      cases l with
      | nil => rfl
      | cons a l => obtain ⟨g, off, h, _⟩ := hR 0 (by simp); cases h
    subst h0
    have hq := nil_none c w
    go_enter Try.func18, Try.ntmps18
    go_wp2
    go_ret
    exact ⟨⟨none, 0, rfl, by simp, by omega, fun i hi => by simp at hi, fun h => by simp at h⟩, Below.refl _ _⟩
  | some ad =>
    have HR := Lib.hid hR
    have hq := nil_some ad l.length c w
    clear hR
    go_enter Try.func18, Try.ntmps18
    go_wp2_with (at_builtin; refine wp_append_flat rfl _ _ 31 3 rfl Try.underlying31 _ 8 Try.infoIntX rfl (by omega) numCell_len numCell_one w.heap.size _ [] rfl (OwnF.made _ _ _ (by first | exact Nat.le_refl _ | (simp; done) | (simp; omega))) _ _ _ l rfl rfl lo hi (intsA_num (HR.out.same (Same.of (by (repeat (first | exact ext_refl _ | assumption | (refine ext_alloc ?_ _) | (refine ext_drewN ?_ _) | refine ext_drew ?_ | (refine ext_set (by first | (simp; done) | (simp; omega)) _ ?_) | (refine ext_trans ?_ (by assumption))))) hh))) (by unfold maxLen; simp; omega) (by simp; omega) (by first | exact Nat.le_refl _ | (simp; done) | (simp; omega)) ?_; intro v2 w2 O2 b2 o2)
    have O2 : OwnN w2 w.heap.size v2 l := O2
    have hB : Below w.heap.size w w2 := (show Below w.heap.size w _ from by (repeat (first | exact ext_refl _ | assumption | (refine ext_alloc ?_ _) | (refine ext_drewN ?_ _) | refine ext_drew ?_ | (refine ext_set (by first | (simp; done) | (simp; omega)) _ ?_) | (refine ext_trans ?_ (by assumption))))).trans b2
    obtain ⟨q2, c2, rfl, H2⟩ := O2.ints
    have H2 := Lib.hid (And.intro H2 hB)
    clear O2 hB b2 o2
    go_wp2
    go_ret
    exact ⟨⟨q2, c2, rfl, H2.out.1⟩, H2.out.2⟩

theorem valAt_get {l : List Val} {i : Nat} {x : Val} (h : l[i]? = some x) : valAt l i = x := by unfold valAt; rw [h]; rfl

set_option maxHeartbeats 1000000 in
/-- The comparison of two places, by their values. -/
theorem ordFn_any (l : List Val) (i k p1 p2 c lo hi : Nat) (q : Option Addr) (w : World) (hi' : i < l.length) (hk : k < l.length) (hc : l.length ≤ c) (hc2 : c ≤ 9223372036854775807) (h1 : w.cell? ⟨p1, 0, none⟩ = some (.func (.func 11) #[] #[])) (h2 : w.cell? ⟨p2, 0, none⟩ = some (.slice q l.length c)) (hV : ValsA w lo hi q l) (hh : hi ≤ w.heap.size) :
    Calls Try.prog 26 #[.int .i64 i, .int .i64 k, .pointer (some ⟨p1, 0, none⟩), .pointer (some ⟨p2, 0, none⟩)] w fun e w' => e = .returned (.int .i64 ((valAt l i).cmp (valAt l k))) ∧ Below w.heap.size w w' := by
  obtain ⟨g, off, rfl, hg1, hg2, hcA⟩ := hV i hi'
  obtain ⟨x, hx⟩ : ∃ x, l[i]? = some x := ⟨_, List.getElem?_eq_getElem hi'⟩
  obtain ⟨y, hy⟩ : ∃ y, l[k]? = some y := ⟨_, List.getElem?_eq_getElem hk⟩
  rw [valAt_get hx, valAt_get hy]
  have l1 := World.block_lt_of_cell? w ⟨p1, 0, none⟩ (by rw [h1])
  have l2 := World.block_lt_of_cell? w ⟨p2, 0, none⟩ (by rw [h2])
  have lg : g < w.heap.size := by omega
  obtain ⟨a0, a1, a2⟩ := hcA i x hx
  obtain ⟨b0, b1, b2⟩ := hcA k y hy
  have q1 := fun (z : After w) => (z.cell p1 0 l1).trans h1
  have q2 := fun (z : After w) => (z.cell p2 0 l2).trans h2
  have q3 := fun (z : After w) => (z.cell g (off + i * 3) lg).trans a0
  have q4 := fun (z : After w) => (z.cell g (off + i * 3 + 1) lg).trans a1
  have q5 := fun (z : After w) => (z.cell g (off + i * 3 + 2) lg).trans a2
  have q6 := fun (z : After w) => (z.cell g (off + k * 3) lg).trans b0
  have q7 := fun (z : After w) => (z.cell g (off + k * 3 + 1) lg).trans b1
  have q8 := fun (z : After w) => (z.cell g (off + k * 3 + 2) lg).trans b2
  have is := After.some w
  have z1 : (i : Int) < (l.length : Int) := by omega
  have z2 : (k : Int) < (l.length : Int) := by omega
  have z5 : IntKind.i64.wrap (i : Int) = (i : Int) := by rw [IntKind.wrap_i64]; omega
  have z6 : IntKind.i64.wrap (k : Int) = (k : Int) := by rw [IntKind.wrap_i64]; omega
  clear a0 a1 a2 b0 b1 b2 hcA hV h1 h2 hx hy
  obtain ⟨xk, xn, xs⟩ := x
  obtain ⟨yk, yn, ys⟩ := y
  go_enter Try.func26, Try.ntmps26
  go_wp2
  refine wp_region_after (by kernel_rfl) (by kernel_rfl) ?_
  repeat (quiet_step ((first | (go_at_call 11; exact calls_after (compare_any ⟨xk, xn, xs⟩ ⟨yk, yn, ys⟩ _)))))
  refine wpQuiet_nil ?_
  intro _ hw
  obtain ⟨⟨W1, hb1⟩, rfl⟩ := hw
  go_wp2
  go_ret
  exact ⟨rfl, hb1⟩

end Go.Proofs.Ytflbeccfdbjbhaa
