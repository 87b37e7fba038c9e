/- The reference's bag: a list of texts, rising. -/
import Derived.Test.YtinonaiolhgklaaBgE
import Derived.Test.YtinonaiolhgklaaBgBack
namespace Go.Proofs.Ytinonaiolhgklaa
open Go.RowKit Go.Maps
open Go.Proofs (encStr)

/-- The pointer to block p is a bag of the reference that has the texts L, rising. -/
structure RefP (w : World) (base p : Nat) (L : List Txt) : Prop where
  blk : ∃ v, w.heap[p]? = some (.cells #[v] 45 (0, 0)) ∧ OwnS w base v L
  sorted : L.Pairwise (fun a b => a ≤ b)
  low : base ≤ p

theorem OwnS.keep {S : Nat → Prop} {w w' : World} {base : Nat} {v : Value} {L : List Txt} (h : OwnS w base v L) (o : Out S w w') (hS : ∀ k, S k → ∀ cur, w.heap[k]? ≠ some (.cells cur 9 (0, 0))) : OwnS w' base v L := by
  obtain ⟨h1, h2⟩ := h
  refine ⟨h1, ?_⟩
  rcases h2 with h2 | ⟨g, cap, cur, hv, hg, hh, r⟩
  · exact .inl h2
  · have hlt : g < w.heap.size := by
      rcases Nat.lt_or_ge g w.heap.size with h | h
      · exact h
      · rw [Array.getElem?_eq_none h] at hh; cases hh
    exact .inr ⟨g, cap, cur, hv, hg, by rw [o.block g hlt (fun k => hS g k cur hh)]; exact hh, r⟩
theorem OwnS.base_le {w : World} {b b' : Nat} {v : Value} {L : List Txt} (h : OwnS w b v L) (hb : b' ≤ b) : OwnS w b' v L := by
  obtain ⟨h1, h2⟩ := h
  refine ⟨h1, ?_⟩
  rcases h2 with h2 | ⟨g, cap, cur, hv, hg, r⟩
  · exact .inl h2
  · exact .inr ⟨g, cap, cur, hv, Nat.le_trans hb hg, r⟩
theorem RefP.lt {w : World} {base p : Nat} {L : List Txt} (h : RefP w base p L) : p < w.heap.size := by
  obtain ⟨v, h1, _⟩ := h.blk
  rcases Nat.lt_or_ge p w.heap.size with h2 | h2
  · exact h2
  · rw [Array.getElem?_eq_none h2] at h1; cases h1
theorem RefP.keep {S : Nat → Prop} {w w' : World} {base p : Nat} {L : List Txt} (h : RefP w base p L) (o : Out S w w') (hp : ¬ S p) (hS : ∀ k, S k → ∀ cur, w.heap[k]? ≠ some (.cells cur 9 (0, 0))) : RefP w' base p L := by
  have hl := h.lt
  obtain ⟨v, h1, h2⟩ := h.blk
  exact ⟨⟨v, by rw [o.block p hl hp]; exact h1, h2.keep o hS⟩, h.sorted, h.low⟩
theorem RefP.ext {w w' : World} {base p : Nat} {L : List Txt} (h : RefP w base p L) (hb : Below w.heap.size w w') : RefP w' base p L := h.keep (S := fun _ => False) (Out.of hb) id (fun _ k => k.elim)
theorem RefP.no_text {w : World} {base p : Nat} {L : List Txt} (h : RefP w base p L) : ∀ cur, w.heap[p]? ≠ some (.cells cur 9 (0, 0)) := by
  obtain ⟨v, h1, _⟩ := h.blk
  intro cur e
  rw [h1] at e
  simp at e
theorem BagP.no_text {w : World} {p m N : Nat} {L : List Txt} (h : BagP w p m N L) : ∀ k, Two p m k → ∀ cur, w.heap[k]? ≠ some (.cells cur 9 (0, 0)) := by
  rintro k (rfl | rfl) cur e
  · rw [h.blk] at e
    simp at e
  · obtain ⟨D, ⟨es, clock, h1, _⟩, _⟩ := h.own
    rw [h1] at e
    cases e
theorem RefP.apart {w : World} {base p : Nat} {L : List Txt} {q m N : Nat} {M : List Txt} (h : RefP w base p L) (hB : BagP w q m N M) : p ≠ q ∧ p ≠ m := by
  obtain ⟨v, h1, _⟩ := h.blk
  constructor
  · rintro rfl
    have := hB.blk
    rw [h1] at this
    simp at this
  · rintro rfl
    obtain ⟨D, ⟨es, clock, h2, _⟩, _⟩ := hB.own
    rw [h1] at h2
    cases h2
/-- What a look at the reference's bag finds. -/
theorem RefP.look {w : World} {base p : Nat} {L : List Txt} (h : RefP w base p L) : ∃ q cap, w.cell? ⟨p, 0, none⟩ = some (.slice q L.length cap) ∧ (∀ o, w.frozen? ⟨p, o, none⟩ = false) ∧ L.length ≤ cap ∧ cap ≤ 9223372036854775807 ∧ ∀ i, i < L.length → ∃ g, q = some ⟨g, 0, none⟩ ∧ base ≤ g ∧ g < w.heap.size ∧ ∀ j u, L[j]? = some u → w.cell? ⟨g, j, none⟩ = some (.string ⟨u.toArray⟩) := by
  obtain ⟨v, h1, h2⟩ := h.blk
  obtain ⟨q, cap, rfl, h3, h5, h4⟩ := h2.src
  exact ⟨q, cap, by rw [Lib.cell_of_heap h1]; rfl, Lib.frozen_of_heap h1, h3, by unfold maxLen at h5; omega, h4⟩

set_option maxRecDepth 100000 in
theorem rcount_any (base p : Nat) (L : List Txt) (s : Txt) (w : World) (hR : RefP w base p L) :
    Calls Try.prog 17 #[.pointer (some ⟨p, 0, none⟩), .string ⟨s.toArray⟩] w fun e w' => e = .returned (.int .i64 (L.count s : Int)) ∧ w' = w := by
  obtain ⟨q, cap, c0, _, hcap, hc2, hL⟩ := hR.look
  go_enter Try.func17, Try.ntmps17
  go_wp2
  go_loopw [5, 6] (fun vn vi wr => ∃ i z : Nat, vi = .int .i64 i ∧ vn = .int .i64 z ∧ i ≤ L.length ∧ z ≤ i ∧ Hid (z = (L.take i).count s) ∧ wr = w) (fun _ vi _ => L.length - (intOf vi).toNat)
  case atStart => exact ⟨0, 0, rfl, rfl, Nat.zero_le _, Nat.le_refl _, rfl, rfl⟩
  case round =>
    obtain ⟨i, z, rfl, rfl, hi, hz, HZ, rfl⟩ := hrel
    by_cases hlt : i < L.length
    · obtain ⟨g, rfl, _, _, hc⟩ := hL i hlt
      have c1 := hc i L[i] (List.getElem?_eq_getElem hlt)
      have ht : (L.take (i + 1)).count s = (L.take i).count s + if L[i] == s then 1 else 0 := by
        rw [List.take_add_one, List.getElem?_eq_getElem hlt, List.count_append]
        simp [List.count_cons]
      obtain ⟨x, hx⟩ : ∃ x, x = L[i] := ⟨_, rfl⟩
      rw [← hx] at c1 ht
      have HT := Lib.hid ht
      clear hc ht hx
      cases he : x == s
      · have HE := Lib.hid he
        go_wp2
        go_roundw
        case rel => exact ⟨i + 1, z, by go_num, rfl, hlt, by omega, by show _ = _; rw [HT.out, HE.out, HZ.out]; rfl, by simp⟩
        case measure => simp [intOf]; omega
      · have HE := Lib.hid he
        go_wp2
        go_roundw
        case rel => exact ⟨i + 1, z + 1, by go_num, by go_num, hlt, by omega, by show _ = _; rw [HT.out, HE.out, HZ.out]; rfl, by simp⟩
        case measure => simp [intOf]; omega
    · have hiL : i = L.length := by omega
      subst hiL
      have hzz : z = L.count s := by have := HZ.out; rwa [List.take_length] at this
      subst hzz
      go_wp2
      go_ret
      exact ⟨rfl, rfl⟩

end Go.Proofs.Ytinonaiolhgklaa
