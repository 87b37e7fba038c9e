/- The reference: whether all columns and parameters are there (known): where there are operands. -/
import Derived.Test.YtiidfghdmaipoaaDoorExH
import Derived.Test.YtiidfghdmaipoaaDoorStO
namespace Go.Proofs.YtiidfghdmaipoaaDoor
open Go.RowKit
set_option maxRecDepth 100000

/-- Where the columns' kinds and the parameters' kinds lie. -/
def KM (w : World) (cv pv : Value) (cols : List (List Int)) (ps : List Int) : Prop :=
  (∃ q c, cv = .slice q cols.length c ∧ cols.length ≤ c ∧ c ≤ 9223372036854775807 ∧ ListsA w 0 w.heap.size q cols) ∧ ∃ q c, pv = .slice q ps.length c ∧ ps.length ≤ c ∧ c ≤ 9223372036854775807 ∧ IntsA w 0 w.heap.size q ps
theorem KM.on {w w' : World} {cv pv : Value} {cols : List (List Int)} {ps : List Int} (h : KM w cv pv cols ps) (hb : Below w.heap.size w w') : KM w' cv pv cols ps := by
  obtain ⟨⟨q, c, h1, h2, h3, h4⟩, q', c', h5, h6, h7, h8⟩ := h
  refine ⟨⟨q, c, h1, h2, h3, ?_⟩, q', c', h5, h6, h7, ?_⟩
  · refine ArrA.imp (ArrA.wide (ListsA.same h4 (Same.of hb (Nat.le_refl _))) (Nat.le_refl _) hb.size) fun g o l _ _ hl => ?_
    obtain ⟨p, c, a, b, d, e⟩ := hl
    exact ⟨p, c, a, b, d, ArrA.wide e (Nat.le_refl _) hb.size⟩
  · exact ArrA.wide (IntsA.same h8 (Same.of hb (Nat.le_refl _))) (Nat.le_refl _) hb.size
def leafK (op rel col n : Int) (cols : List (List Int)) (ps : List Int) : Option Int :=
  if op = 2 then (cols[rel.toNat]?).bind fun l => l[col.toNat]? else if op = 3 then ps[(n - 1).toNat]? else some 0
def leafOk : Option Int → Bool
  | none => false
  | some k => decide (0 ≤ k) && decide (k ≤ 3)
mutual
def knownE (cols : List (List Int)) (ps : List Int) : Ex → Bool
  | .mk op _ rel col n _ l => leafOk (leafK op rel col n cols ps) && knownL cols ps l
def knownL (cols : List (List Int)) (ps : List Int) : List Ex → Bool
  | [] => true
  | x :: r => knownE cols ps x && knownL cols ps r
end
theorem known_other {op : Int} {v : Val} {rel col n : Int} {s : ByteArray} {l : List Ex} {cols : List (List Int)} {ps : List Int} (h2 : op ≠ 2) (h3 : op ≠ 3) : knownE cols ps (.mk op v rel col n s l) = knownL cols ps l := by
  rw [knownE, leafK, if_neg h2, if_neg h3]
  rfl

end Go.Proofs.YtiidfghdmaipoaaDoor
