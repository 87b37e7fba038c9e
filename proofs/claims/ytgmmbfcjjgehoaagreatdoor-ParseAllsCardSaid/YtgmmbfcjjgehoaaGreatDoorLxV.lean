/- Bytes of the call's own, as a text. -/
import Derived.Test.YtgmmbfcjjgehoaaGreatDoorLxP
import Derived.Test.YtgmmbfcjjgehoaaGreatDoorBs
import Derived.Test.YtgmmbfcjjgehoaaGreatDoorBytes
import Derived.Laws.BytesString
namespace Go.Proofs.YtgmmbfcjjgehoaaGreatDoor
open Go.RowKit
set_option maxRecDepth 100000

abbrev toJ (l : Bs) : List Int := l.map fun b => (b.toNat : Int)
theorem toJ_app (a b : Bs) : toJ (a ++ b) = toJ a ++ toJ b := List.map_append
theorem toJ_push (l : Bs) : ∀ acc : ByteArray, (toJ l).foldl (fun (r : ByteArray) (n : Int) => r.push (UInt8.ofNat n.toNat)) acc = ⟨acc.data ++ l.toArray⟩ := by
  induction l with
  | nil => intro acc; simp [toJ]
  | cons b l ih =>
    intro acc
    have := ih (acc.push b)
    unfold toJ at this ⊢
    simp only [List.map_cons, List.foldl_cons, Int.toNat_natCast, UInt8.ofNat_toNat]
    rw [this]
    simp [ByteArray.push]
theorem conv_own {w : World} {base : Nat} {v : Value} {l : Bs} (h : OwnB w base v (toJ l)) : (convert 44 9 v).run Tryz.prog w = .ok (.string (bsB l)) w := by
  have h' := h
  obtain ⟨h1, h2⟩ := h'
  rcases h2 with ⟨rfl, h0⟩ | ⟨g, cap, cur, rfl, hb, hg, hn, hm, hc, ht⟩
  · have : l = [] := by rw [List.length_map] at h0; exact List.eq_nil_of_length_eq_zero h0
    subst this
    rw [run_convert_bytes_string w 44 9 5 none 0 0 Tryz.underlying44 Tryz.underlying5 Tryz.underlying9]
    rfl
  · rw [run_convert_bytes_string w 44 9 5 _ _ _ Tryz.underlying44 Tryz.underlying5 Tryz.underlying9]
    have hl : (loadCells ⟨g, 0, none⟩ (toJ l).length).run Tryz.prog w = .ok ((toJ l).map (Value.int .u8)).toArray w := by
      have := run_loadCells_list (P := Tryz.prog) w ⟨g, 0, none⟩ ((toJ l).map (Value.int .u8)) (fun j u hu => World.ownsRow.cells h (g := g) rfl j u hu)
      rwa [List.length_map] at this
    rw [run_bytesToString w _ _ cap (toJ l) hl, toJ_push]
    simp
theorem OwnB.len {w : World} {base : Nat} {p : Option Addr} {n c : Nat} {l : List Int} (h : OwnB w base (.slice p n c) l) : n = l.length := by
  rcases h.2 with ⟨h, h0⟩ | ⟨g, cap, cur, hv, _⟩
  · cases h; exact h0.symm
  · cases hv; rfl

end Go.Proofs.YtgmmbfcjjgehoaaGreatDoor
