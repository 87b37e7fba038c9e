/- Bags in memory: a pointer to a map and a number. A bag is told by the list of its texts, whatever their order. -/
import Derived.Test.YtkeekefekajfnaaOut
import Derived.Maps.Own
import Derived.Maps.OwnOps
import Derived.Maps.OwnSet
import Derived.Maps.RangeWalk
import Derived.Maps.Ext
import Derived.Sort.KeysCollected
namespace Go.Proofs.Ytkeekefekajfnaa
open Go.RowKit Go.Maps
open Go.Proofs (encStr)

abbrev Txt := List UInt8

/-- What a map reads as that says how often each text is there. -/
structure BagD (D : DataW Unit) (L : List Txt) : Prop where
  has : ∀ s, Maps.has D (.string s) = decide (s ∈ L)
  at_ : ∀ s z, s ∈ L → D.atKey (.string s) z = .lit (.int .i64 (L.count s))

theorem BagD.nil : BagD (.map []) [] := ⟨fun s => rfl, fun s z h => by cases h⟩
theorem BagD.get {D : DataW Unit} {L : List Txt} (h : BagD D L) (s : Txt) : D.atKey (.string s) (.lit (.int .i64 0)) = .lit (.int .i64 (L.count s)) := by
  by_cases e : s ∈ L
  · exact h.at_ s _ e
  · rw [atKey_of_not_has (by rw [h.has s]; simpa using e), List.count_eq_zero.2 e]; rfl
theorem str_key (s : Txt) : WideAt.IsKeyLit (.string s) := trivial
theorem str_ne {s t : Txt} (h : s ≠ t) : Lit.string s ≠ Lit.string t := fun e => h (by simpa using e)
theorem BagD.put {D : DataW Unit} {L : List Txt} (h : BagD D L) (hm : IsMap D) (s : Txt) (n : Nat) (hn : 0 < n) : BagD (D.put (.string s) (.lit (.int .i64 ((L.count s + n : Nat) : Int)))) (List.replicate n s ++ L) := by
  refine ⟨fun t => ?_, fun t z ht => ?_⟩
  · by_cases e : t = s
    · subst e
      rw [has_put_same hm (str_key _)]
      simp [show n ≠ 0 by omega]
    · rw [has_put_other (str_ne e), h.has t]
      simp [e]
  · by_cases e : t = s
    · subst e
      rw [atKey_put_same hm (str_key _), List.count_append, List.count_replicate_self]
      congr 3
      omega
    · have ht' : t ∈ L := by simpa [e] using ht
      rw [atKey_put_other (str_ne e), h.at_ t z ht', List.count_append, List.count_replicate, if_neg (by simpa using fun k => e k.symm), Nat.zero_add]
theorem count_erase_other {s t : Txt} (L : List Txt) (h : t ≠ s) : (L.erase s).count t = L.count t := by rw [List.count_erase, if_neg (by simpa using fun k => h k.symm), Nat.sub_zero]
theorem BagD.del {D : DataW Unit} {L : List Txt} (h : BagD D L) (s : Txt) (hc : L.count s = 1) : BagD (D.del (.string s)) (L.erase s) := by
  have h0 : s ∉ L.erase s := by rw [← List.count_eq_zero, List.count_erase_self]; omega
  refine ⟨fun t => ?_, fun t z ht => ?_⟩
  · by_cases e : t = s
    · subst e
      rw [has_del_same]
      simp [h0]
    · rw [has_del_other (str_ne e), h.has t]
      simp only [List.mem_erase_of_ne e]
  · have e : t ≠ s := fun k => h0 (k ▸ ht)
    rw [atKey_del_other (str_ne e), h.at_ t z (List.mem_of_mem_erase ht), count_erase_other L e]
theorem BagD.down {D : DataW Unit} {L : List Txt} (h : BagD D L) (hm : IsMap D) (s : Txt) (c : Nat) (hc : L.count s = c + 1) (h1 : 0 < c) : BagD (D.put (.string s) (.lit (.int .i64 (c : Int)))) (L.erase s) := by
  have h0 : s ∈ L.erase s := by rw [← List.count_pos_iff, List.count_erase_self]; omega
  refine ⟨fun t => ?_, fun t z ht => ?_⟩
  · by_cases e : t = s
    · subst e
      rw [has_put_same hm (str_key _)]
      simp [h0]
    · rw [has_put_other (str_ne e), h.has t]
      simp only [List.mem_erase_of_ne e]
  · by_cases e : t = s
    · subst e
      rw [atKey_put_same hm (str_key _), List.count_erase_self, hc]
      rfl
    · rw [atKey_put_other (str_ne e), h.at_ t z (List.mem_of_mem_erase ht), count_erase_other L e]

theorem Try.law : Keyed Try.prog 9 := string_keyed Try.underlying9
theorem Try.zeroInt (w : World) : (zeroValue 3).run Try.prog w = .ok (.int .i64 0) w := by kernel_rfl

end Go.Proofs.Ytkeekefekajfnaa
