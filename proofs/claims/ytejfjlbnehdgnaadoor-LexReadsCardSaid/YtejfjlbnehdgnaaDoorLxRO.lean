/- The reference's token at a place, whatever stands there. -/
import Derived.Test.YtejfjlbnehdgnaaDoorLxRL
import Derived.Test.YtejfjlbnehdgnaaDoorLxRT
namespace Go.Proofs.YtejfjlbnehdgnaaDoor
open Go.RowKit
set_option maxRecDepth 100000

theorem rone_any (s : ByteArray) (k : Nat) (w : World) (hk : k < s.size) (hs : s.size ≤ 2000) :
    Calls Tryd.prog 12 #[.string s, .int .i64 (k : Int)] w fun e w' => OneOut (one (s.data.toList.drop k)) k e ∧ Below w.heap.size w w' := by
  have hsl : s.data.toList.length = s.size := Array.length_toList
  obtain ⟨b, hb⟩ : ∃ b, s.data.toList[k]? = some b := ⟨_, List.getElem?_eq_getElem (by rw [hsl]; exact hk)⟩
  have hd : s.data.toList.drop k = b :: s.data.toList.drop (k + 1) := by
    obtain ⟨h1, rfl⟩ := List.getElem?_eq_some_iff.1 hb
    exact List.drop_eq_getElem_cons h1
  have e : one (s.data.toList.drop k) = if isLetter b then oneWord (s.data.toList.drop k) else if isDigit b then oneNum (s.data.toList.drop k) else if b = 39 then oneText (s.data.toList.drop (k + 1)) else if b = 36 then onePar (s.data.toList.drop (k + 1)) else oneSign (s.data.toList.drop k) := by
    rw [hd, one_cons]
  cases h1 : isLetter b with
  | true => rw [e, h1]; exact rone_word s k w hk hs b hb h1
  | false =>
    cases h2 : isDigit b with
    | true => rw [e, h1, h2]; exact rone_num s k w hk hs b hb h1 h2
    | false =>
      by_cases h3 : b = 39
      · rw [e, h1, h2, if_pos h3]; subst h3; exact rone_text s k w hk hs hb
      · by_cases h4 : b = 36
        · rw [e, h1, h2, if_neg h3, if_pos h4]; subst h4; exact rone_par s k w hk hs hb
        · rw [e, h1, h2, if_neg h3, if_neg h4]; exact rone_sign s k w hk hs b hb h1 h2 h3 h4

end Go.Proofs.YtejfjlbnehdgnaaDoor
