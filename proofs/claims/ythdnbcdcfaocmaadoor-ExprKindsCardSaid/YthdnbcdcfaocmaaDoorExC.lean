/- The reference: how deep, how many, whatever the expression; Right. -/
import Derived.Test.YthdnbcdcfaocmaaDoorExB
namespace Go.Proofs.YthdnbcdcfaocmaaDoor
open Go.RowKit
set_option maxRecDepth 100000

theorem head_two {op : Int} {v : Val} {rel col n : Int} {s : ByteArray} {len : Nat} (h : headOk op v rel col n s len = true) : len ≤ 2 := by
  have h1 := (head_parts h).1
  unfold wantsOf at h1
  split at h1
  · omega
  · split at h1
    · omega
    · split at h1 <;> omega

theorem rsizes_any : ∀ (k : Nat), k ≤ 100 → ∀ (x : Ex) (cs : List Value) (w : World), ExM w x cs → Calls Tryd.prog 45 #[.agg cs.toArray, .int .i64 (k : Int)] w fun e w' => SizesIs k x e ∧ Below w.heap.size w w'
  | 0, _, .mk op v rel col n s l, cs, w, h => by
    rw [ExM.iff] at h
    obtain ⟨-, q, c, rfl, -, -⟩ := h
    exact rsizes_head 0 op v rel col n s l q c w (.inr rfl)
  | k + 1, hk, .mk op v rel col n s l, cs, w, h => by
    rw [ExM.iff] at h
    obtain ⟨-, q, c, rfl, -, hl⟩ := h
    cases hh : headOk op v rel col n s l.length with
    | false => exact rsizes_head (k + 1) op v rel col n s l q c w (.inl hh)
    | true =>
      match l, hl, hh with
      | [], _, hh => exact rsizes_zero k op v rel col n s q c w (by omega) hh
      | [x], hl, hh => exact rsizes_one k op v rel col n s x q c w hl (rsizes_any k (by omega) x) (by omega) hh
      | [x, y], hl, hh => exact rsizes_two k op v rel col n s x y q c w hl (rsizes_any k (by omega) x) (rsizes_any k (by omega) y) (by omega) hh
      | _ :: _ :: _ :: r, _, hh =>
        have := head_two hh
        simp only [List.length_cons] at this
        omega

set_option maxHeartbeats 4000000 in
theorem rightE_any (x : Ex) (cs : List Value) (w : World) (h : ExM w x cs) : Calls Tryd.prog 18 #[.agg cs.toArray] w fun e w' => e = .returned (.bool (rightE x)) ∧ Below w.heap.size w w' := by
  obtain ⟨op, v, rel, col, n, s, l⟩ := x
  have hx := h
  rw [ExM.iff] at h
  obtain ⟨-, q, c, rfl, -, -⟩ := h
  have B0 : Below w.heap.size w (w.alloc (.cells (exCells op v rel col n s q l.length c).toArray 26)) := ext_alloc (ext_refl _) _
  have H := Lib.hid (rsizes_any 20 (by omega) _ _ _ (ExM.ext B0 _ _ hx))
  have HB := Lib.hid B0
  clear B0 hx
  go_enter Tryd.func18, Tryd.ntmps18
  go_wp2_with fail
  refine H.out.mono ?_
  rintro e Y ⟨he, hbY⟩
  have HBY := Lib.hid (HB.out.trans (hbY.mono HB.out.size))
  clear hbY
  unfold SizesIs at he
  cases hs : sizesE 20 (.mk op v rel col n s l) with
  | none =>
    have HR := Lib.hid (show rightE (.mk op v rel col n s l) = false by unfold rightE; rw [hs]; rfl)
    rw [hs] at he
    simp only at he
    clear hs
    subst he
    go_wp2_with fail
    refine bodyPost_ret (v := .bool false) (by simp [results, Tryd.results18, go_sem]) rfl ⟨by rw [HR.out], HBY.out⟩
  | some da =>
    have HR := Lib.hid (show rightE (.mk op v rel col n s l) = true by unfold rightE; rw [hs]; rfl)
    rw [hs] at he
    simp only at he
    clear hs
    subst he
    go_wp2_with fail
    refine bodyPost_ret (v := .bool true) (by simp [results, Tryd.results18, go_sem]) rfl ⟨by rw [HR.out], HBY.out⟩

end Go.Proofs.YthdnbcdcfaocmaaDoor
