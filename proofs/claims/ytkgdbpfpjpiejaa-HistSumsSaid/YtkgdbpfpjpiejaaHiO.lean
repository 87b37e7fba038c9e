/- Arguments that are histograms, steps, lists of steps, values, truths, opened. -/
import Derived.Test.YtkgdbpfpjpiejaaHiB
import Derived.Test.YtkgdbpfpjpiejaaStO
namespace Go.Proofs.Ytkgdbpfpjpiejaa
open Go.ChangeShapes Go.WideShapes Go.ChangeAt Go.RowKit Go.Joins Go.Deep
set_option linter.unusedVariables false
set_option linter.unusedSimpArgs false
set_option maxRecDepth 100000

instance : Inhabited Stp := ⟨⟨nul, 0⟩⟩
theorem Try.cellsStep : Try.prog.cellsOf 39 = 4 := by kernel_rfl

section
variable {H : Type} {enc : TypeId × Value → H}

/-- What a step's cells may hold. -/
def FitS (s : Stp) : Prop := inR s.x.k = true ∧ inR s.x.n = true ∧ s.x.s.size ≤ maxLen ∧ inR s.m = true

/-- Four cells that read as a step. -/
theorem cells_step {W : World} {base n : Nat} {spare : Nat → Bool} {held : Bool} {cs : List Value} {y : DataW H × List MemPlace} (h : DataW.trod enc Try.prog W base spare held n 39 cs = some y) :
    ∃ s : Stp, cs = [.int .i64 s.x.k, .int .i64 s.x.n, .string s.x.s, .int .i64 s.m] ∧ FitS s := by
  obtain ⟨y0, y1, m, _, hl, h0, h1⟩ := trod_struct2 Try.underlying39 h
  rw [Try.cellsStep] at hl
  obtain ⟨x, e0, f1, f2, f3⟩ := cells_val h0
  obtain ⟨a, e1, _, wa⟩ := DataW.trod_int Try.underlying3 h1
  have kv : Try.prog.cellsOf 31 = 3 := Try.cellsVal
  have ki : Try.prog.cellsOf 3 = 1 := by kernel_rfl
  match cs, hl with
  | [v0, v1, v2, v3], _ =>
    simp [kv, ki] at e0 e1
    obtain ⟨rfl, rfl, rfl⟩ := e0
    subst e1
    exact ⟨⟨x, a⟩, rfl, f1, f2, f3, by simpa [inR, Lit.wf, IntKind.min, IntKind.signed, IntKind.bits] using wa⟩

theorem open_steps13 {W : World} {base fuel : Nat} {spare : Nat → Bool} {held : Bool} {cs : List Value} {y : DataW H × List MemPlace} (hf : DataW.trod enc Try.prog W base spare held fuel 27 cs = some y) (hz : ∀ n ∈ y.1.weights Try.prog 27, n ≤ reachBytes) :
    ∃ (q : Option Addr) (l : List Stp) (c : Nat), cs = [.slice q l.length c] ∧ l.length ≤ c ∧ c ≤ 9223372036854775807 ∧ l.length * 40 ≤ reachBytes ∧ StepsA W 0 W.heap.size q l ∧ ∀ s ∈ l, FitS s := by
  have hB : Try.prog.bytesOf 39 = 40 := by kernel_rfl
  obtain ⟨q, l, c, h1, h2, h3, h4, h5, h6⟩ := open_arr Try.underlying27 Try.cellsStep (by omega) (stepC W) FitS hf hz (fun cs y n htr _ g o hk => by
    obtain ⟨s, rfl, f⟩ := cells_step htr
    exact ⟨s, ⟨⟨hk 0 _ (by omega) rfl, hk 1 _ (by omega) rfl, hk 2 _ (by omega) rfl⟩, hk 3 _ (by omega) rfl⟩, f⟩)
  rw [hB] at h4
  exact ⟨q, l, c, h1, h2, h3, h4, h5, h6⟩

/-- An argument that is a list of steps. -/
theorem open_steps {W : World} {spare : Nat → Bool} {r : Reach} {b0 base : Nat} {v : Value} {d : DataW H} {p : List MemPlace} (hv : Value.okWide Try.prog W r b0 27 v) (h : DataW.Trod enc Try.prog W base spare true 27 v d p) (hz : ∀ n ∈ d.weights Try.prog 27, n ≤ reachBytes) :
    ∃ (q : Option Addr) (l : List Stp) (c : Nat), v = .slice q l.length c ∧ l.length ≤ c ∧ c ≤ 9223372036854775807 ∧ l.length * 40 ≤ reachBytes ∧ StepsA W 0 W.heap.size q l ∧ ∀ s ∈ l, FitS s := by
  obtain ⟨a0, len, cap, rfl⟩ := okWide_slice Try.underlying27 hv
  obtain ⟨fuel, hf⟩ := h
  obtain ⟨q, l, c, h1, h2⟩ := open_steps13 hf hz
  simp [Value.cells] at h1
  obtain ⟨rfl, rfl, rfl⟩ := h1
  exact ⟨_, l, _, rfl, h2⟩

/-- An argument that is a histogram. -/
theorem open_hist {W : World} {spare : Nat → Bool} {r : Reach} {b0 base : Nat} {v : Value} {d : DataW H} {p : List MemPlace} (hv : Value.okWide Try.prog W r b0 29 v) (h : DataW.Trod enc Try.prog W base spare true 29 v d p) (hz : ∀ n ∈ d.weights Try.prog 29, n ≤ reachBytes) :
    ∃ (k nn : Int) (q : Option Addr) (l : List Stp) (c : Nat), v = .agg #[.int .i64 k, .int .i64 nn, .slice q l.length c] ∧ l.length ≤ c ∧ c ≤ 9223372036854775807 ∧ l.length * 40 ≤ reachBytes ∧ StepsA W 0 W.heap.size q l ∧ ∀ s ∈ l, FitS s := by
  have hC : Try.prog.cellsOf 29 = 3 := by kernel_rfl
  obtain ⟨c0, c1, c2, y0, y1, y2, m, rfl, hy, -, h0, h1, h2⟩ := open_agg3 Try.underlying29 (by kernel_rfl) hC hv h
  subst hy
  obtain ⟨a, e0, -, wa⟩ := DataW.trod_int Try.underlying3 h0
  obtain ⟨b, e1, -, wb⟩ := DataW.trod_int Try.underlying3 h1
  obtain ⟨q, l, c, e2, k1, k2, k3, k4, k5⟩ := open_steps13 h2 (fun n hn => hz n (by simp [DataW.weights, Try.underlying29, DataW.weightsEach, hn]))
  simp at e0 e1 e2
  subst e0 e1 e2
  exact ⟨a, b, q, l, c, rfl, k1, k2, k3, k4, k5⟩

/-- An argument that is a step. -/
theorem open_step {W : World} {spare : Nat → Bool} {held : Bool} {r : Reach} {b0 base : Nat} {v : Value} {d : DataW H} {p : List MemPlace} (hv : Value.okWide Try.prog W r b0 39 v) (h : DataW.Trod enc Try.prog W base spare held 39 v d p) :
    ∃ s : Stp, v = .agg #[.int .i64 s.x.k, .int .i64 s.x.n, .string s.x.s, .int .i64 s.m] ∧ FitS s := by
  obtain ⟨cs, rfl, hsz⟩ := okWide_struct Try.underlying39 hv
  obtain ⟨c0, c1, c2, c3, rfl⟩ := array4 (hsz.trans Try.cellsStep)
  obtain ⟨fuel, hf⟩ := h
  obtain ⟨s, e, f⟩ := cells_step hf
  simp [Value.cells] at e
  obtain ⟨rfl, rfl, rfl, rfl⟩ := e
  exact ⟨s, rfl, f⟩

/-- An argument that is a truth. -/
theorem open_bool {W : World} {spare : Nat → Bool} {held : Bool} {r : Reach} {b0 base : Nat} {v : Value} {d : DataW H} {p : List MemPlace} (hv : Value.okWide Try.prog W r b0 4 v) (_ : DataW.Trod enc Try.prog W base spare held 4 v d p) :
    ∃ t : Bool, v = .bool t := okWide_bool Try.underlying4 hv

end

end Go.Proofs.Ytkgdbpfpjpiejaa
