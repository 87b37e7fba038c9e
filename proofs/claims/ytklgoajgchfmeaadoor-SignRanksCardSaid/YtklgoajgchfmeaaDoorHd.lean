/- A part of the proof: a short name. -/
import Derived.Lib.Hide
namespace Go.Proofs.YtklgoajgchfmeaaDoor
theorem zH {p : Prop} (h : p) : Go.RowKit.Hid p := Lib.hid h
end Go.Proofs.YtklgoajgchfmeaaDoor
