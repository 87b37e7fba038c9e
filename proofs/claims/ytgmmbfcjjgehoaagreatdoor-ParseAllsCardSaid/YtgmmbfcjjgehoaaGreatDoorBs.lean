/- A list of bytes as a text. No program is walked here. -/
import Derived.Test.YtgmmbfcjjgehoaaGreatDoorLxP
namespace Go.Proofs.YtgmmbfcjjgehoaaGreatDoor

abbrev bsB (l : Bs) : ByteArray := ⟨l.toArray⟩
theorem bsB_add (a b : Bs) : bsB a ++ bsB b = bsB (a ++ b) := by
  apply ByteArray.ext
  rw [ByteArray.data_append]
  apply Array.ext'
  simp
theorem bsB_data (s : ByteArray) : bsB s.data.toList = s := rfl
theorem bsB_len (l : Bs) : (bsB l).size = l.length := rfl

end Go.Proofs.YtgmmbfcjjgehoaaGreatDoor
