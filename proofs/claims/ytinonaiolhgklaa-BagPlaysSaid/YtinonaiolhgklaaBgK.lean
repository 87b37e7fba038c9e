/- The texts of a bag, each once, in order. -/
import Derived.Test.YtinonaiolhgklaaBgM
import Derived.Test.YtinonaiolhgklaaLay
import Derived.Sort.OwnSorted
namespace Go.Proofs.Ytinonaiolhgklaa
open Go.RowKit Go.Maps Go.Sort Go.Shelf
open Go.Proofs (encStr)

/-- A slice of texts in a block of the call's own. -/
def OwnS (w : World) (base : Nat) (v : Value) (K : List Txt) : Prop := w.ownsRow base 9 1 v K.length (K.map encStr)

/-- K has the texts of L, each once, in order. -/
structure Kinds (K L : List Txt) : Prop where
  sorted : K.Pairwise (fun a b => a ≤ b ∧ a ≠ b)
  mem : ∀ s, s ∈ K ↔ s ∈ L

theorem keys_of {w : World} {m N : Nat} {D : DataW Unit} (h : w.ownsMap Try.prog 9 (plainElem Try.prog 3) m N D) : (strKeys D).Nodup ∧ ∀ x, x ∈ strKeys D ↔ Maps.has D (.string x) = true := by
  obtain ⟨es, hD, hpw, _⟩ := h.entries Try.law
  obtain ⟨es', hD', hko⟩ := h.keysOf
  obtain rfl : es = es' := by rw [hD] at hD'; simpa using hD'
  subst hD
  have hk : ∀ q ∈ es, ∃ x, q.1 = .string x := fun q hq => by
    obtain ⟨v, hv⟩ := hko q hq
    obtain ⟨x, _, hx, _⟩ := Maps.keyOf_str Try.underlying9 hv
    exact ⟨x, hx⟩
  constructor
  · refine List.pairwise_map.2 (hpw.imp_of_mem fun {a b} ha hb hne e => hne ?_)
    obtain ⟨x, hx⟩ := hk a ha
    obtain ⟨y, hy⟩ := hk b hb
    rw [hx, hy] at e ⊢
    exact congrArg _ e
  · intro x
    rw [has_eq, List.any_eq_true]
    show x ∈ es.map (fun q => strOf q.1) ↔ _
    rw [List.mem_map]
    constructor
    · rintro ⟨q, hq, rfl⟩
      obtain ⟨y, hy⟩ := hk q hq
      exact ⟨q, hq, by rw [hy]; simp [Lit.sameKey, strOf]⟩
    · rintro ⟨q, hq, hs⟩
      obtain ⟨y, hy⟩ := hk q hq
      rw [hy] at hs
      exact ⟨q, hq, by rw [hy]; simpa [Lit.sameKey, strOf] using hs⟩

theorem kinds_of {w : World} {m N : Nat} {D : DataW Unit} {L ss : List Txt} (h : w.ownsMap Try.prog 9 (plainElem Try.prog 3) m N D) (hD : BagD D L) (hp : ss.Perm (strKeys D)) : Kinds (ss.mergeSort (fun x y => decide (x ≤ y))) L := by
  obtain ⟨h1, h2⟩ := keys_of h
  have hnd : (ss.mergeSort (fun x y => decide (x ≤ y))).Nodup := (((List.mergeSort_perm ss _).trans hp).nodup_iff).2 h1
  have tr : ∀ a b c : Txt, decide (a ≤ b) = true → decide (b ≤ c) = true → decide (a ≤ c) = true := fun a b c h1 h2 => by simp only [decide_eq_true_eq] at *; exact List.le_trans h1 h2
  have tot : ∀ a b : Txt, (decide (a ≤ b) || decide (b ≤ a)) = true := fun a b => by simp only [Bool.or_eq_true, decide_eq_true_eq]; exact List.le_total a b
  refine ⟨?_, fun s => ?_⟩
  · refine ((List.pairwise_mergeSort tr tot ss).and hnd).imp ?_
    rintro a b ⟨h1, h2⟩
    exact ⟨by simpa using h1, h2⟩
  · rw [((List.mergeSort_perm ss _).trans hp).mem_iff, h2 s, hD.has s]
    simp

theorem sorts_in (k : Nat) : AnyZ.SortsIn Try.prog Try.sorted38_ren Fence.wide k :=
  ⟨fun blk off cap ss W hH hblk hsz => callsIn_wide.2 (AnyM.slices_Sort_string Try.sort41 blk off cap ss W hH hblk hsz), fun p cap W => callsIn_wide.2 (AnyM.slices_Sort_string_none Try.sort41 p cap W)⟩

theorem mapKeys_any (mb : Option Nat) (W : World) : CallsIn Fence.wide 5 Try.prog 39 #[.map mb] W fun e w' => e = .returned (.func (.func 42) #[] #[.pointer (some ⟨W.heap.size, 0, none⟩)]) ∧ w' = W.alloc (.cells #[.map mb] 46) :=
  AnyZ.keys_in Try.keys39 Fence.wide 5 trivial rfl mb W

set_option maxHeartbeats 1000000 in
theorem sortedKeys_any (b n : Nat) (D : DataW Unit) (w : World) (hown : w.ownsMap Try.prog 9 (plainElem Try.prog 3) b n D) (hn : n ≤ 8796093022208) :
    CallsIn Fence.wide 5 Try.prog 38 #[.func (.func 42) #[] #[.pointer (some ⟨w.heap.size, 0, none⟩)]] (w.alloc (.cells #[.map (some b)] 46)) fun e w' => ∃ (v : Value) (ss : List Txt), e = .returned v ∧ ss.Perm (strKeys D) ∧
      w'.ownsRow (w.alloc (.cells #[.map (some b)] 46)).heap.size 9 1 v ss.length ((ss.mergeSort (fun x y => decide (x ≤ y))).map encStr) ∧ (v = .slice none 0 0 ↔ ss = []) ∧ Below (w.alloc (.cells #[.map (some b)] 46)).heap.size (w.alloc (.cells #[.map (some b)] 46)) w' := by
  have hbl := hown.lt
  have hsz := hown.size_le
  have hseq : SeqGives Fence.wide 2 Try.prog 42 #[.pointer (some ⟨w.heap.size, 0, none⟩)] encStr (fun ss => ss.Perm (strKeys D)) (Maps.size D) (w.alloc (.cells #[.map (some b)] 46)) :=
    AnyZ.keys_gives (ρ := Try.keys39_ren) { Try.keys39 with } Fence.wide _ trivial rfl (by omega) w.heap.size b n D _ (by simp) (by simp) (by
      obtain ⟨es, clock, hb, Ft, hs, hD⟩ := hown
      exact ⟨es, clock, (Below.heap_alloc _ _ b hbl).trans hb, Ft, hs, hD⟩)
  exact AnyZ.sorted_in Try.sorted38 Fence.wide 5 trivial trivial trivial trivial rfl (by omega) (sorts_in _) (enters_of Try.func41 (by kernel_rfl) rfl) 42 #[.pointer (some ⟨w.heap.size, 0, none⟩)] trivial (enters_of Try.func42 (by kernel_rfl) rfl) _ _ (by unfold maxLen; omega) (by omega) _ hseq

set_option maxHeartbeats 1000000 in
theorem ascending_any (p m N : Nat) (L : List Txt) (w : World) (hB : BagP w p m N L) (hN : N ≤ 8796093022208) :
    Calls Try.prog 37 #[.pointer (some ⟨p, 0, none⟩)] w fun e w' => ∃ v K, e = .returned v ∧ Kinds K L ∧ OwnS w' w.heap.size v K ∧ Below w.heap.size w w' := by
  have c0 := hB.c0
  obtain ⟨D, hown, hD⟩ := hB.own
  refine (callsIn_wide (n := 6)).1 ?_
  have hfK : Fence.wide.fn 39 := trivial
  have hfS : Fence.wide.fn 38 := trivial
  refine callsIn_of_wp Try.func37 rfl trivial ?_ rfl
  simp only [Try.ntmps37, List.size_toArray, List.length_cons, List.length_nil, Nat.reduceAdd, Nat.reduceSub, Array.replicate_succ, Array.replicate_zero, List.push_toArray, List.append_toArray, List.nil_append, List.cons_append]
  gi_wp2_with (first
    | (gi_at_call 39; refine (mapKeys_any _ _).mono ?_; rintro e w' ⟨rfl, rfl⟩)
    | (gi_at_call 38; refine (sortedKeys_any m N D w hown hN).mono ?_; rintro e w' ⟨v, ss, rfl, hS, hrow, hnil, hb⟩))
  go_ret
  refine ⟨v, _, rfl, kinds_of hown hD hS, ?_, ((Below.refl _ w).alloc (Nat.le_refl _) _).trans (hb.mono (by simp))⟩
  have h := ownsRow_base_a hrow (show w.heap.size ≤ _ by simp)
  unfold OwnS
  rw [List.length_mergeSort]
  exact h

theorem bagKinds_any (p m N : Nat) (L : List Txt) (w : World) (hB : BagP w p m N L) (hN : N ≤ 8796093022208) :
    Calls Try.prog 29 #[.pointer (some ⟨p, 0, none⟩)] w fun e w' => ∃ v K, e = .returned v ∧ Kinds K L ∧ OwnS w' w.heap.size v K ∧ Below w.heap.size w w' := by
  go_enter Try.func29, Try.ntmps29
  go_wp2_with fail
  refine (ascending_any p m N L w hB hN).mono ?_
  rintro e w1 ⟨v, K, rfl, h1, h2, h3⟩
  go_wp2
  go_ret
  exact ⟨v, K, rfl, h1, h2, h3⟩

end Go.Proofs.Ytinonaiolhgklaa
