/- A histogram that the law builds: its box, whose list of steps grows. -/
import Derived.Test.YtkgdbpfpjpiejaaHiD
namespace Go.Proofs.Ytkgdbpfpjpiejaa
open Go.RowKit Go.Deep
set_option linter.unusedVariables false
set_option linter.unusedSimpArgs false
set_option maxRecDepth 100000

theorem Try.infoStep : (Try.prog.info? 39).map (fun i => (i.zero, i.size, i.bytes)) = some (some (.agg #[.int .i64 0, .int .i64 0, .string ⟨#[]⟩, .int .i64 0]), 4, 40) := by kernel_rfl

/-- The steps K of the call's own. -/
abbrev OwnSt (w : World) (base : Nat) (v : Value) (K : List Stp) : Prop := OwnF w base 39 4 sCell v K
theorem OwnSt.read {w : World} {base : Nat} {v : Value} {K : List Stp} (h : OwnSt w base v K) : ∃ q c, v = .slice q K.length c ∧ K.length ≤ c ∧ c ≤ 9223372036854775807 ∧ StepsA w 0 w.heap.size q K := by
  obtain ⟨q, c, h1, h2, h3, -, h5⟩ := OwnF.arr sCell_len h
  exact ⟨q, c, h1, h2, h3, stepsA_of h5⟩

/-- The box g of a histogram, behind the world V (which ends at it): what was there before is as it was. -/
structure HBox (V X : World) (g : Nat) (d nn : Int) (v : Value) (K : List Stp) : Prop where
  bel : Below g V X
  c0 : X.cell? ⟨g, 0, none⟩ = some (.int .i64 d)
  c1 : X.cell? ⟨g, 1, none⟩ = some (.int .i64 nn)
  c2 : X.cell? ⟨g, 2, none⟩ = some v
  fr : X.frozen? ⟨g, 2, none⟩ = false
  lt : g < X.heap.size
  own : OwnSt X (g + 1) v K

theorem HBox.later {V X Y : World} {g : Nat} {d nn : Int} {v : Value} {K : List Stp} (h : HBox V X g d nn v K) (hb : Below X.heap.size X Y) : HBox V Y g d nn v K :=
  ⟨h.bel.trans (hb.mono (Nat.le_of_lt h.lt)), (hb.cell (p := ⟨g, _, none⟩) h.lt).trans h.c0, (hb.cell (p := ⟨g, _, none⟩) h.lt).trans h.c1, (hb.cell (p := ⟨g, _, none⟩) h.lt).trans h.c2, (hb.frozen (p := ⟨g, _, none⟩) h.lt).trans h.fr, Nat.lt_of_lt_of_le h.lt hb.size, OwnF.later h.own hb⟩

/-- The list of steps put anew, whatever was there. -/
theorem HBox.make {V X Y : World} {g : Nat} {d nn : Int} {u v' : Value} {K' : List Stp} (bel : Below g V X) (h0 : X.cell? ⟨g, 0, none⟩ = some (.int .i64 d)) (h1 : X.cell? ⟨g, 1, none⟩ = some (.int .i64 nn)) (h2 : X.cell? ⟨g, 2, none⟩ = some u) (h3 : X.frozen? ⟨g, 2, none⟩ = false) (h4 : g < X.heap.size)
    (hb : Below (g + 1) X Y) (ho : OwnSt Y (g + 1) v' K') : HBox V (Y.setCell ⟨g, 2, none⟩ v') g d nn v' K' := by
  have c0 := (hb.cell (p := ⟨g, 0, none⟩) (Nat.lt_succ_self _)).trans h0
  have c1 := (hb.cell (p := ⟨g, 1, none⟩) (Nat.lt_succ_self _)).trans h1
  have c2 := (hb.cell (p := ⟨g, 2, none⟩) (Nat.lt_succ_self _)).trans h2
  have fr := (hb.frozen (p := ⟨g, 2, none⟩) (Nat.lt_succ_self _)).trans h3
  have lt := Nat.lt_of_lt_of_le h4 hb.size
  have one : v'.oneCell' = true := by
    obtain ⟨q, c, rfl, _⟩ := ho.read
    rfl
  refine ⟨(bel.trans (hb.mono (by omega))).setCell (Nat.le_refl _) _, ?_, ?_, ?_, ?_, ?_, ho.kept (Out.set (S := fun k => k = g) _ _ rfl) (fun k hk e => by
    have := (ho.lt k e).1
    omega)⟩
  · simp [go_sem, c0]
  · simp [go_sem, c1]
  · simp [go_sem, c2]
  · simp [go_sem, fr]
  · simp [go_sem, lt]
theorem HBox.put {V X Y : World} {g : Nat} {d nn : Int} {v v' : Value} {K K' : List Stp} (h : HBox V X g d nn v K) (hb : Below (g + 1) X Y) (ho : OwnSt Y (g + 1) v' K') : HBox V (Y.setCell ⟨g, 2, none⟩ v') g d nn v' K' :=
  HBox.make h.bel h.c0 h.c1 h.c2 h.fr h.lt hb ho

/-- The box, made with no steps. -/
theorem HBox.new {V : World} (d nn : Int) : HBox V (V.alloc (.cells #[.int .i64 d, .int .i64 nn, .slice none 0 0] 29)) V.heap.size d nn (.slice none 0 0) [] :=
  ⟨(Below.refl _ _).alloc (Nat.le_refl _) _, by simp [go_sem], by simp [go_sem], by simp [go_sem], by simp [go_sem], by simp, OwnF.nil _ _ _⟩

end Go.Proofs.Ytkgdbpfpjpiejaa
