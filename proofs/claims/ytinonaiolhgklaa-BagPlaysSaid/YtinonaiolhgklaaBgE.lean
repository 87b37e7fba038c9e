/- The chapter's examples are so. -/
import Derived.Test.YtinonaiolhgklaaBgB
namespace Go.Proofs.Ytinonaiolhgklaa
open Go.RowKit Go.Maps
open Go.Proofs (encStr)

theorem OwnS.src {w : World} {base : Nat} {v : Value} {K : List Txt} (h : OwnS w base v K) : ∃ p cap, v = .slice p K.length cap ∧ K.length ≤ cap ∧ cap ≤ maxLen ∧ ∀ i, i < K.length → ∃ g, p = some ⟨g, 0, none⟩ ∧ base ≤ g ∧ g < w.heap.size ∧ ∀ j u, K[j]? = some u → w.cell? ⟨g, j, none⟩ = some (.string ⟨u.toArray⟩) := by
  obtain ⟨h1, h2⟩ := h
  rcases h2 with ⟨rfl, h0⟩ | ⟨g, cap, cur, rfl, hb, hg, hn, hm, hc, ht⟩
  · exact ⟨none, 0, by rw [h0], by omega, by unfold maxLen; omega, fun i hi => by omega⟩
  · refine ⟨some ⟨g, 0, none⟩, cap, rfl, hn, hm, fun i hi => ⟨g, rfl, hb, ?_, fun j u hu => ?_⟩⟩
    · rcases Nat.lt_or_ge g w.heap.size with h | h
      · exact h
      · rw [Array.getElem?_eq_none h] at hg; cases hg
    · have hj : j < K.length := by
        rcases Nat.lt_or_ge j K.length with h | h
        · exact h
        · rw [List.getElem?_eq_none h] at hu; cases hu
      rw [Lib.cell_of_heap hg]
      have := congrArg (fun l => l[j]?) ht
      have hKj : K[j] = u := by rw [List.getElem?_eq_getElem hj] at hu; simpa using hu
      simp [hj] at this
      rw [hKj] at this
      simpa [hj, encStr] using this

theorem Kinds.nodup {K L : List Txt} (h : Kinds K L) : K.Nodup := h.sorted.imp And.right
theorem Kinds.uniq {K K' L L' : List Txt} (h : Kinds K L) (h' : Kinds K' L') (hl : ∀ s, s ∈ L ↔ s ∈ L') : K = K' := by
  refine List.Perm.eq_of_pairwise (le := fun a b => a ≤ b) (fun a b _ _ h1 h2 => List.le_antisymm h1 h2) (h.sorted.imp And.left) (h'.sorted.imp And.left) ?_
  exact (List.perm_ext_iff_of_nodup h.nodup h'.nodup).2 fun s => by rw [h.mem, h'.mem, hl]

def exT (i : Nat) : ByteArray := if i = 1 then ⟨#[98]⟩ else ⟨#[97]⟩
theorem exT_size (i : Nat) : (exT i).size ≤ 9223372036854775807 := by
  unfold exT
  split <;> (show (1 : Nat) ≤ _; omega)
theorem ex_kinds {K : List Txt} (h : Kinds K (lst exT 3).reverse) : K = [[97], [98]] := by
  refine h.uniq (L' := [[97], [98], [97]]) ⟨by decide, fun s => ?_⟩ fun s => Iff.rfl
  simp only [List.mem_cons, List.not_mem_nil, or_false]
  exact ⟨fun h => h.elim .inl (fun h => .inr (.inl h)), fun h => h.elim .inl (fun h => h.elim .inr .inl)⟩

set_option maxRecDepth 100000 in
set_option maxHeartbeats 2000000 in
theorem ex3_any (w : World) : Calls Try.prog 9 #[] w fun e w' => e = .returned (.bool true) ∧ Below w.heap.size w w' := by
  have e1 : ∀ (W : World) (o : Obj), (W.alloc o).heap.size = W.heap.size + 1 := fun W o => by simp
  go_enter Try.func9, Try.ntmps9
  go_wp2_with fail
  refine (of_any _ 3 3 exT _ (fun k hk => ⟨w.heap.size, 0, rfl, by simp, fun i hi => ?_⟩) (by omega) (fun i _ => exT_size i)).mono ?_
  · rw [Lib.cell_of_heap (heap_alloc_new w _)]
    match i, hi with
    | 0, _ => rfl
    | 1, _ => rfl
    | 2, _ => rfl
  rintro e w1 ⟨pa, ma, rfl, hA, hb1, hpa, hma⟩
  have hb1' : Below w.heap.size w w1 := ((Below.refl _ _).alloc (Nat.le_refl _) _).trans (hb1.mono (by simp))
  clear hb1
  have la := hA.lt
  have lma := hA.ltm
  go_wp2_with fail
  refine (of_any _ 1 1 exT _ (fun k hk => ⟨w1.heap.size, 0, rfl, by simp, fun i hi => ?_⟩) (by omega) (fun i _ => exT_size i)).mono ?_
  · rw [Lib.cell_of_heap (heap_alloc_new w1 _)]
    match i, hi with
    | 0, _ => rfl
  rintro e w2 ⟨pb, mb, rfl, hB, hb2, hpb, hmb⟩
  have hb2' : Below w1.heap.size w1 w2 := ((Below.refl _ _).alloc (Nat.le_refl _) _).trans (hb2.mono (by simp))
  clear hb2
  have hA2 := hA.ext hb2'
  have hb12 := Lib.hid (ext_trans hb1' hb2')
  clear hb1' hb2' hA
  go_wp2_with fail
  refine (bagKinds_any pa ma 3 _ w2 hA2 (by omega)).mono ?_
  rintro e w3 ⟨v, K, rfl, hK, hO, hb3⟩
  obtain rfl := ex_kinds hK
  obtain ⟨pk, ck, hv, _, _, hcs⟩ := hO.src
  obtain ⟨g, rfl, _, hg, hc⟩ := hcs 1 (by decide)
  have hv : v = .slice (some ⟨g, 0, none⟩) 2 ck := hv
  subst hv
  have c1 : w3.cell? ⟨g, 1, none⟩ = some (.string ⟨#[98]⟩) := hc 1 [98] rfl
  have hA3 := hA2.ext hb3
  have hB3 := hB.ext hb3
  have hb13 := Lib.hid (ext_trans hb12.out hb3)
  have HK := Lib.hid (And.intro hO hcs)
  have hc2 : (lst exT 3).reverse.count [97] = 2 := by decide
  have hl3 : (lst exT 3).reverse.length = 3 := by decide
  have hw1 : within (lst exT 3).reverse (lst exT 1).reverse = false := by decide
  have hw2 : within (lst exT 1).reverse (lst exT 3).reverse = true := by decide
  clear hA2 hB hb3 hb12 hO hcs hc hK
  go_wp2_with fail
  refine (count_any pa ma 3 _ ⟨#[97]⟩ w3 (by show (1 : Nat) ≤ _; omega) hA3).mono ?_
  rintro e w4 ⟨rfl, rfl⟩
  rw [show ((⟨#[97]⟩ : ByteArray).data.toList) = [97] from rfl, hc2]
  go_wp2_with fail
  refine (len_any pa ma 3 _ w4 hA3).mono ?_
  rintro e w5 ⟨rfl, rfl⟩
  rw [hl3]
  go_wp2_with fail
  refine (within_any pa ma 3 pb mb 1 _ _ w5 hA3 hB3).mono ?_
  rintro e w6 ⟨rfl, hb6⟩
  rw [hw1]
  have hA6 := hA3.ext hb6
  have hB6 := hB3.ext hb6
  have hb16 := Lib.hid (ext_trans hb13.out hb6)
  clear hA3 hB3 hb6
  go_wp2_with fail
  refine (within_any pb mb 1 pa ma 3 _ _ w6 hB6 hA6).mono ?_
  rintro e w7 ⟨rfl, hb7⟩
  rw [hw2]
  go_wp2
  go_ret
  exact ⟨rfl, ext_trans hb16.out hb7⟩

end Go.Proofs.Ytinonaiolhgklaa
