/- What is answered of two whole numbers. No program is walked here. -/
import Derived.Test.YtklbomfcejgbmaaValB
namespace Go.Proofs.Ytklbomfcejgbmaa
open Go.RowKit

theorem arith_num (op a b : Int) (h : op = 7 → b ≠ 0) : arith op (num a) (num b) = if inR (comp op a b) then (num (comp op a b), 0) else (nul, 3) := by
  have h1 : Val.nullOr 1 (num a) = true := by simp [Val.nullOr, Val.right]
  have h2 : Val.nullOr 1 (num b) = true := by simp [Val.nullOr, Val.right]
  have h3 : (op == 7 && b == 0) = false := by
    by_cases h7 : op = 7
    · simp [h7, h h7]
    · simp [h7]
  simp only [arith, h1, h2, h3]
  rfl

end Go.Proofs.Ytklbomfcejgbmaa
