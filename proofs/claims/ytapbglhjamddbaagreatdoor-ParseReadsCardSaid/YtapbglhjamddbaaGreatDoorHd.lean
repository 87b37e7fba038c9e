/- A part of the proof: a short name. -/
import Derived.Lib.Hide
namespace Go.Proofs.YtapbglhjamddbaaGreatDoor
theorem zH {p : Prop} (h : p) : Go.RowKit.Hid p := Lib.hid h
end Go.Proofs.YtapbglhjamddbaaGreatDoor
