/- SignNormals: the law answers true, and its arguments read as they did, for every input of at most 1048576 values and letters, as the tied card of the second form says. Conditions: that bound (the first form is false at arguments too great for any machine); what the package-level variables hold when the call begins is what the program's own text lays (the card ties it). -/
import Derived.Test.YtklgoajgchfmeaaDoorKl
import Derived.Test.YtklgoajgchfmeaaDoorKy
import Derived.Test.YtklgoajgchfmeaaDoorKg
import Derived.Test.YtklgoajgchfmeaaDoorKe
import Derived.Test.YtklgoajgchfmeaaDoorCards
import Derived.Test.YtklgoajgchfmeaaDoorTie
import Derived.Lay
import Derived.LaidMore
import Derived.OpenShut
import Derived.SevenTiedAt
import Derived.Stop.Joined
import Derived.SizedLaws
import Derived.Deep.DeepHandedRow
set_option linter.unusedVariables false
set_option linter.unusedSimpArgs false
namespace Go.Proofs.YtklgoajgchfmeaaDoor
open Go.ChangeShapes Go.WideShapes Go.ChangeAt Go.RowKit Go.Joins Go.Deep
set_option maxRecDepth 100000
section
variable {H : Type} {enc : TypeId × Value → H}
theorem cells_valB {W : World} {base n : Nat} {spare : Nat → Bool} {held : Bool} {cs : List Value} {y : DataW H × List MemPlace} (h : DataW.trod enc Tryd.prog W base spare held n 23 cs = some y) :
    ∃ x : Val, cs = [.int .i64 x.k, .int .i64 x.n, .string x.s] ∧ inR x.k = true ∧ inR x.n = true ∧ x.s.size ≤ maxLen ∧ x.s.size + 3 ≤ Rows.uptoBulk y.1 := by
  obtain ⟨y0, y1, y2, m, ye, hl, h0, h1, h2⟩ := trod_struct3 Tryd.underlying23 h
  rw [Tryd.cellsVal] at hl
  match cs, hl with
  | [v0, v1, v2], _ =>
    obtain ⟨a, e0, z0, wa⟩ := DataW.trod_int Tryd.underlying3 h0
    obtain ⟨b, e1, z1, wb⟩ := DataW.trod_int Tryd.underlying3 h1
    obtain ⟨s, e2, z2, hs⟩ := DataW.trod_string Tryd.underlying9 h2
    have k3 : Tryd.prog.cellsOf 3 = 1 := by kernel_rfl
    have k9 : Tryd.prog.cellsOf 9 = 1 := by kernel_rfl
    simp [k3, k9] at e0 e1 e2
    subst e0 e1 e2
    refine ⟨⟨a, b, s⟩, rfl, ?_, ?_, hs, ?_⟩
    · simpa [inR, Lit.wf, IntKind.min, IntKind.signed, IntKind.bits] using wa
    · simpa [inR, Lit.wf, IntKind.min, IntKind.signed, IntKind.bits] using wb
    · subst ye z0 z1 z2
      show s.size + 3 ≤ Rows.uptoBulk (DataW.agg [DataW.lit (.int .i64 a), DataW.lit (.int .i64 b), DataW.lit (.string s.data.toList)])
      simp only [Rows.uptoBulk, Rows.uptoBulkAll]
      have e2 : s.data.toList.length = s.size := by simp
      omega
theorem inAllL_map {T : Nat → Ex} : ∀ {l : List Nat}, (∀ i ∈ l, (T i).inAll) → inAllL (l.map T)
  | [], _ => by rw [List.map_nil, inAllL]; trivial
  | i :: l, h => by
    rw [List.map_cons, inAllL]
    exact ⟨h i (by simp), inAllL_map fun j hj => h j (by simp [hj])⟩
theorem printL_bulk {T : Nat → Ex} {D : Nat → DataW H} : ∀ {l : List Nat}, (∀ i ∈ l, (T i).print.length + 1 ≤ 60 * Rows.uptoBulk (D i)) → (printL (l.map T)).length ≤ 60 * Rows.uptoBulkAll (l.map D)
  | [], _ => by rw [List.map_nil, printL]; exact Nat.zero_le _
  | i :: l, h => by
    have h1 := h i (by simp)
    have h2 := printL_bulk (T := T) (D := D) (l := l) fun j hj => h j (by simp [hj])
    rw [List.map_cons, List.map_cons, printL, Rows.uptoBulkAll]
    simp only [List.length_append, List.length_cons]
    omega
theorem print_bulk {op : Int} {v : Val} {rel col n : Int} {s : ByteArray} {l : List Ex} {B : Nat} (hv : inR v.n = true) (hs : v.s.size ≤ maxLen) (i0 : inR op = true) (i1 : inR rel = true) (i2 : inR col = true) (i3 : inR n = true) (hl : (printL l).length ≤ 60 * B) :
    (Ex.mk op v rel col n s l).print.length ≤ v.s.size + 60 * B + 50 + 21 := by
  have a0 := itoa_le i0
  have a1 := itoa_le i1
  have a2 := itoa_le i2
  have a3 := itoa_le i3
  have a4 := itoa_le hv
  by_cases h1 : op = 1
  · subst h1
    rw [print_leaf1]
    obtain ⟨k, m, t⟩ := v
    have e2 : t.data.size = t.size := rfl
    unfold printV
    split
    · simp
    · split
      · simp at a4 ⊢; omega
      · split
        · simp at a4 ⊢; omega
        · have ht : t.size ≤ 9223372036854775807 := hs
          have a5 := itoa_le (n := (t.size : Int)) (inR_iff.2 ⟨by omega, by omega⟩)
          simp [e2] at a5 ⊢
          omega
  · by_cases h2 : op = 2
    · subst h2
      rw [print_ref]
      simp at a1 a2 ⊢
      omega
    · by_cases h3 : op = 3
      · subst h3
        rw [print_par]
        simp at a3 ⊢
        omega
      · rw [print_opW h1 h2 h3]
        simp at a0 ⊢
        omega
theorem open_exprB : ∀ (N : Nat) {W : World} {base n : Nat} {spare : Nat → Bool} {held : Bool} {cs : List Value} {y : DataW H × List MemPlace}, SizeOf.sizeOf y.1 < N → DataW.trod enc Tryd.prog W base spare held n 26 cs = some y → ∃ x : Ex, ExM W x cs ∧ cs.length = 9 ∧ x.inAll ∧ x.print.length + 1 ≤ 60 * Rows.uptoBulk y.1
  | 0, _, _, _, _, _, _, _, h, _ => absurd h (by omega)
  | N + 1, W, base, n, spare, held, cs, y, hN, h => by
    obtain ⟨xs, n', _, rfl, hl, hlen, hf⟩ := DataW.trod_struct Tryd.underlying26 h
    rw [Tryd.cellsExpr] at hl
    match xs, hlen, cs, hl with
    | [y0, y1, y2, y3, y4, y5, y6], _, [v0, v1, v2, v3, v4, v5, v6, v7, v8], _ =>
      have h0 := hf 0 _ rfl
      have h1 := hf 1 _ rfl
      have h2 := hf 2 _ rfl
      have h3 := hf 3 _ rfl
      have h4 := hf 4 _ rfl
      have h5 := hf 5 _ rfl
      have h6 := hf 6 _ rfl
      clear hf h
      simp only [List.getElem?_cons_zero, List.getElem?_cons_succ] at h0 h1 h2 h3 h4 h5 h6
      obtain ⟨op, e0, y0e, wo⟩ := DataW.trod_int Tryd.underlying3 h0
      obtain ⟨v, e1, r1, r2, r3, yv⟩ := cells_valB h1
      obtain ⟨rel, e2, y2e, wr⟩ := DataW.trod_int Tryd.underlying3 h2
      obtain ⟨col, e3, y3e, wc⟩ := DataW.trod_int Tryd.underlying3 h3
      obtain ⟨nn, e4, y4e, wn⟩ := DataW.trod_int Tryd.underlying3 h4
      obtain ⟨s, e5, y5e, _⟩ := DataW.trod_string Tryd.underlying9 h5
      have hN6 : SizeOf.sizeOf y6.1 < N := by
        have h := size_agg (H := H) (l := [y0, y1, y2, y3, y4, y5, y6].map (·.1)) (d := y6.1) (by simp)
        have hN' : SizeOf.sizeOf (DataW.agg ([y0, y1, y2, y3, y4, y5, y6].map (·.1))) < N + 1 := hN
        omega
      clear hN
      simp [Tryd.cellsInt, Tryd.cellsStr, Tryd.cellsVal] at e0 e1 e2 e3 e4 e5
      obtain ⟨rfl, rfl, rfl⟩ := e1
      subst e0 e2 e3 e4 e5
      have hbk : Rows.uptoBulk (DataW.agg ([y0, y1, y2, y3, y4, y5, y6].map (·.1))) = Rows.uptoBulk y0.1 + (Rows.uptoBulk y1.1 + (Rows.uptoBulk y2.1 + (Rows.uptoBulk y3.1 + (Rows.uptoBulk y4.1 + (Rows.uptoBulk y5.1 + (Rows.uptoBulk y6.1 + 0)))))) + 1 := by
        simp only [List.map_cons, List.map_nil, Rows.uptoBulk, Rows.uptoBulkAll]
      have i0 : inR op = true := by simpa [inR, Lit.wf, IntKind.min, IntKind.signed, IntKind.bits] using wo
      have i1 : inR rel = true := by simpa [inR, Lit.wf, IntKind.min, IntKind.signed, IntKind.bits] using wr
      have i2 : inR col = true := by simpa [inR, Lit.wf, IntKind.min, IntKind.signed, IntKind.bits] using wc
      have i3 : inR nn = true := by simpa [inR, Lit.wf, IntKind.min, IntKind.signed, IntKind.bits] using wn
      have hS : Tryd.prog.cellsOf 24 = 1 := by kernel_rfl
      rcases open_slice Tryd.underlying24 h6 with ⟨hc, _⟩ | ⟨a, len, cap, m, n2, D, Pl, hc, hb, hl2, hm, hmm, hx, hi⟩
      · simp [hS] at hc
        subst hc
        refine ⟨.mk op v rel col nn s [], ExM.iff.2 ⟨⟨r1, r2, r3⟩, none, 0, rfl, Nat.le_refl _, by rw [ExL]; trivial⟩, rfl, ?_, ?_⟩
        · rw [Ex.inAll, inAllL]
          exact ⟨⟨i0, i1, i2, i3⟩, trivial⟩
        · have := print_bulk (op := op) (rel := rel) (col := col) (n := nn) (s := s) (l := []) (B := 0) r2 r3 i0 i1 i2 i3 (show (printL []).length ≤ 60 * 0 by rw [printL]; exact Nat.le_refl _)
          show _ ≤ 60 * Rows.uptoBulk (DataW.agg ([y0, y1, y2, y3, y4, y5, y6].map (·.1)))
          rw [hbk]
          omega
      · simp [hS] at hc
        subst hc
        have hlm : len ≤ m := by rw [hmm]; split <;> omega
        rw [Tryd.cellsExpr] at hi
        have each : ∀ i, i < len → ∃ x : Ex, ∃ cs', (∀ k, k < 9 → W.cell? (a.add (i * 9 + k)) = cs'[k]?) ∧ cs'.length = 9 ∧ ExM W x cs' ∧ x.inAll ∧ x.print.length + 1 ≤ 60 * Rows.uptoBulk (D i) := by
          intro i hil
          obtain ⟨cs', hcs, htr⟩ := hi i (by omega)
          obtain ⟨_, hlen, hat⟩ := World.cells?_some hcs
          obtain ⟨x, hx2, _, hin, hpb⟩ := open_exprB N (y := (D i, Pl i)) (by
            have h := size_in (H := H) (l := (List.range len).map D) (m := (List.range (m - len)).map fun j => D (len + j)) (d := D i) (List.mem_map.2 ⟨i, List.mem_range.2 hil, rfl⟩)
            rw [hx] at hN6
            have hN7 : SizeOf.sizeOf (DataW.slice ((List.range len).map D) ((List.range (m - len)).map fun j => D (len + j))) < N := hN6
            show SizeOf.sizeOf (D i) < N
            omega) htr
          exact ⟨x, cs', fun k hk => by have h1 := hat k hk; rw [add_add] at h1; exact h1, hlen, hx2, hin, hpb⟩
        have haddr : 0 < len → a = ⟨a.block, a.off, none⟩ ∧ a.block < W.heap.size := by
          intro hl0
          obtain ⟨_, cs', hk, hlen, _⟩ := each 0 hl0
          have h1 := hk 0 (by omega)
          rw [Nat.zero_mul, Nat.zero_add, Addr.add, if_pos rfl, List.getElem?_eq_getElem (by omega)] at h1
          exact addr_here h1
        obtain ⟨T, hT⟩ := choose_lt each
        have hlen : ((List.range len).map T).length = len := by simp
        refine ⟨.mk op v rel col nn s ((List.range len).map T), ExM.iff.2 ⟨⟨r1, r2, r3⟩, some a, cap, by rw [hlen], by rw [hlen]; exact hl2, ExL.of fun j x hx => ?_⟩, rfl, ?_, ?_⟩
        rotate_left
        · rw [Ex.inAll]
          refine ⟨⟨i0, i1, i2, i3⟩, inAllL_map fun i hi => ?_⟩
          obtain ⟨_, _, _, _, h, _⟩ := hT i (List.mem_range.1 hi)
          exact h
        · have hpl : (printL ((List.range len).map T)).length ≤ 60 * Rows.uptoBulkAll ((List.range len).map D) := printL_bulk fun i hi => by
            obtain ⟨_, _, _, _, _, h⟩ := hT i (List.mem_range.1 hi)
            exact h
          have := print_bulk (op := op) (rel := rel) (col := col) (n := nn) (s := s) r2 r3 i0 i1 i2 i3 hpl
          show _ ≤ 60 * Rows.uptoBulk (DataW.agg ([y0, y1, y2, y3, y4, y5, y6].map (·.1)))
          rw [hbk]
          have h6b : Rows.uptoBulkAll ((List.range len).map D) + 1 ≤ Rows.uptoBulk y6.1 := by
            rw [hx]
            show _ ≤ Rows.uptoBulk (DataW.slice ((List.range len).map D) ((List.range (m - len)).map fun j => D (len + j)))
            rw [Rows.uptoBulk]
            omega
          omega
        have hj : j < len := by
          rcases Nat.lt_or_ge j len with h | h
          · exact h
          · rw [List.getElem?_eq_none (by rw [hlen]; exact h)] at hx; cases hx
        have hTx : T j = x := by simpa [hj] using hx
        obtain ⟨cs', hk, hl9, hx9, _, _⟩ := hT j hj
        rw [hTx] at hx9
        obtain ⟨ha, hlt⟩ := haddr (by omega)
        refine ⟨a.block, a.off, cs', by rw [← ha], hlt, hx9, fun k u hu => ?_⟩
        have hk9 : k < 9 := by
          rcases Nat.lt_or_ge k 9 with h | h
          · exact h
          · rw [List.getElem?_eq_none (by omega)] at hu; cases hu
        have h1 := hk k hk9
        rw [hu, ha, addr_off] at h1
        rw [Nat.zero_add, Nat.add_assoc]
        exact h1
theorem open_exB {r : Reach} {b0 base : Nat} {W : World} {spare : Nat → Bool} {held : Bool} {v : Value} {d : DataW H} {p : List MemPlace} (hv : Value.okWide Tryd.prog W r b0 26 v) (h : DataW.Trod enc Tryd.prog W base spare held 26 v d p) :
    ∃ (x : Ex) (cs : List Value), v = .agg cs.toArray ∧ ExM W x cs ∧ x.inAll ∧ x.print.length + 1 ≤ 60 * Rows.uptoBulk d := by
  obtain ⟨cs, rfl, _⟩ := okWide_struct Tryd.underlying26 hv
  obtain ⟨fuel, hf⟩ := h
  obtain ⟨x, hx, _, h1, h2⟩ := open_exprB _ (Nat.lt_succ_self _) hf
  exact ⟨x, cs.toList, by simp, hx, h1, h2⟩
end
open Go.ChangeShapes Go.WideShapes Go.ChangeAt Go.RowKit Go.Joins
set_option maxRecDepth 100000
noncomputable abbrev laidVars : List (String × DataW Unit) := Rows.signTellsRow.laid
theorem wit_shaped (os : Os) (args : Array Value) : ((World.laidAll Tryd.prog os laidVars).forCall (fun _ _ => 0) ⟨#[], args, []⟩).Shaped Tryd.prog := World.shaped_of_ZipB (by kernel_rfl) (by kernel_rfl)
theorem wit_met (os : Os) (args : Array Value) : laidMetH Tryd.prog laidVars ((World.laidAll Tryd.prog os laidVars).forCall (fun _ _ => 0) ⟨#[], args, []⟩).memory := by
  rw [MakeChecks.laidMetH_plain _ _ _ (by kernel_rfl)]
  exact laidMet_laidAll _ (by kernel_rfl) (by kernel_rfl)
theorem var_lt {W : World} {n : String} {d : DataW Unit} {g : Nat} (h : Lib.VarReads Tryd.prog W n d) (hg : Tryd.prog.globalNamed n = some g) : g < W.heap.size := by
  obtain ⟨g', t, cs, fuel, p, hg', ht, hv, hd⟩ := h
  obtain rfl := Option.some.inj (hg.symm.trans hg')
  unfold World.var? at hv
  simp only [hg, Option.bind_some] at hv
  rcases Nat.lt_or_ge g W.heap.size with h | h
  · exact h
  · simp [Array.getElem?_eq_none h] at hv
theorem GE.of_laid {W : World} (hL : laidMetH Tryd.prog laidVars W) : GE W := by
  rw [MakeChecks.laidMetH_plain _ _ _ (by kernel_rfl)] at hL
  have h1 : Lib.VarReads Tryd.prog W "math/bits.deBruijn64tab" Rows.laid_math_bits_deBruijn64tab := Lib.laidMet.reads hL (List.mem_of_getElem? (i := 1) rfl)
  have hlt := var_lt h1 (g := 3) (by kernel_rfl)
  exact GE.of_reads (by omega) (Lib.laidMet.reads hL (List.mem_of_getElem? (i := 3) rfl)) (Lib.laidMet.reads hL (List.mem_of_getElem? (i := 2) rfl))
open Go.ChangeShapes Go.WideShapes Go.ChangeAt Go.RowKit Go.Joins Go.Deep
set_option maxRecDepth 100000
theorem wit_row {H : Type} {enc : TypeId × Value → H} {s : OpenSpec} (os : Os) (f : FuncId) (fn : Func) (conds : List PathCond) (apart : Bool) (args : Array Value)
    (hok : Input.okWideB Tryd.prog ((World.laidAll Tryd.prog os laidVars).forCall (fun _ _ => 0) ⟨#[], args, []⟩) f ⟨#[], args, []⟩ = true)
    (hrow : s.preRow enc Tryd.prog fn conds apart laidVars ((World.laidAll Tryd.prog os laidVars).forCall (fun _ _ => 0) ⟨#[], args, []⟩).memory args) :
    ∃ (w : World) (tape : Tape) (i : Input), w.os = os ∧ (w.forCall tape i).Shaped Tryd.checked.prog ∧ i.vars = [] ∧ Input.okWide Tryd.checked.prog (w.forCall tape i) .any w.heap.size f i ∧
      s.preRow enc Tryd.checked.prog fn conds apart laidVars (w.forCall tape i).memory i.args ∧ ({} : Assume).holds Tryd.checked.prog (lone (Frame.enter Tryd.checked.prog f i.args .normal) [] (w.forCall tape i)) :=
  ⟨World.laidAll Tryd.prog os laidVars, fun _ _ => 0, ⟨#[], args, []⟩, World.laidAll_os _ _ _, wit_shaped os _, rfl, (Input.okWide_of_okWideB (base := 0) hok).2, hrow, by
    simp only [Assume.holds]
    exact ⟨by simp, by simp, fun _ => Modest.zero, by simp, by simp⟩⟩
set_option maxRecDepth 100000 in
theorem signNormals_lifted (os : Os) (started : os.Started) (H : Type) (enc : TypeId × Value → H) (F : Stop.Interp) :
    ReturnsInHanded {} Tryd.checked os 3 .any ((Rows.OpenSpec.upto Rows.signNormalsSpec).preRow enc Tryd.prog Tryd.f3 Rows.signNormalsUptoRow.domain false laidVars) (((Rows.OpenSpec.upto Rows.signNormalsSpec).at F).post enc Tryd.prog Tryd.f3 false true false false) := by
  refine returnsInHanded_of_row (C := Tryd.checked) (s := Rows.OpenSpec.upto Rows.signNormalsSpec) Tryd.own started (by kernel_rfl) Tryd.func3
    (wit_row os _ _ _ _ #[.agg #[.int .i64 0, .int .i64 0, .int .i64 0, .string ⟨#[]⟩, .int .i64 0, .int .i64 0, .int .i64 0, .string ⟨#[]⟩, .slice none 0 0], .slice none 0 0] (by kernel_rfl)
      (OpenSpec.preRow_of_cond (x := ([.agg [.lit (.int .i64 0), .agg [.lit (.int .i64 0), .lit (.int .i64 0), .lit (.string [])], .lit (.int .i64 0), .lit (.int .i64 0), .lit (.int .i64 0), .lit (.string []), .nil], .nil], [], [])) 8 (by kernel_rfl) (by kernel_rfl) (fun k hk => by cases hk; kernel_rfl) (by kernel_rfl) (wit_met os _))) ?_
  intro W base args ds gs before hval0 hW _ hcond hsz hL _ _
  have hval : ∀ (j : Nat) t v, Tryd.f3.params[j]? = some t → args[j]? = some v → Value.okWide Tryd.prog W .any base t v := hval0
  have hW' := hW
  obtain ⟨p, q, hA0, hV, rfl, _, _⟩ := hW
  obtain ⟨rfl, rfl⟩ := trodVars_none hV
  have hA : DataW.TrodAll enc Tryd.prog W 0 (fun _ => true) true Tryd.f3.params.toList args.toList ds p := hA0
  rw [Tryd.params3] at hA hval hsz
  obtain ⟨v0, v1, d0, d1, p0, p1, rfl, rfl, rfl, h0, h1⟩ := trodAll_two hA
  have hB : Rows.uptoBulkAll ([d0, d1] ++ []) ≤ 1048576 := of_decide_eq_true (hcond _ rfl)
  simp only [List.append_nil, Rows.uptoBulkAll] at hB
  obtain ⟨x0, cs0, rfl, hx0, hi0, hp0⟩ := open_exB (hval 0 26 v0 rfl rfl) h0
  obtain ⟨q1, L1, c1, rfl, le1, m1, hl1, few1⟩ := open_exprs (hval 1 24 v1 rfl rfl) h1 (fun n hn => of_decide_eq_true (List.all_eq_true.1 hsz _ (DataW.weights_mem_each (j := 1) (t := 24) rfl rfl n hn)))
  have hG := GE.of_laid hL
  clear hA0 hval0 hL
  refine (signNormals_any x0 _ L1 q1 c1 W hx0 hi0 (by omega) hl1 le1 m1 hG).mono fun e W' ⟨he, hb⟩ => ⟨_, he, post_law rfl hW' rfl rfl ?_ hb⟩
  intro t ht
  rw [Tryd.params3] at ht
  simp only [List.mem_cons, List.not_mem_nil, or_false] at ht
  rcases ht with rfl | rfl <;> exact ⟨by kernel_rfl, of_decide_eq_true (by kernel_rfl)⟩
theorem signNormals_holds : Rows.SignNormalsUptoSaid :=
  OpenClaim.holds_of_cond 3 Tryd.f3 rfl rfl rfl rfl rfl rfl rfl ⟨rfl, rfl, rfl, rfl, rfl⟩ rfl rfl rfl rfl rfl (by kernel_rfl) Tryd.func3 (by kernel_rfl)
    (of_decide_eq_true (by kernel_rfl)) (by unfold Func.isWrapper; rw [if_neg (of_decide_eq_false (by kernel_rfl))]; exact ⟨rfl, rfl⟩)
    (fun os started H enc _ F => by rw [OpenClaim.pre_eq_preRow]; exact signNormals_lifted os started H enc F)
set_option maxRecDepth 100000 in
theorem signNormals_card : Rows.SignNormalsUptoCardSaid :=
  Claim7.holds_tied_plain_at .later [] Rows.signNormalsUptoCard.laidKinds true Rows.signNormalsUptoCard.stood.harness Rows.signNormalsUptoCard.stood.looks (signNormals_holds) (fun _ h => by cases h) (by kernel_rfl) (fun _ h => by cases h) signNormalsUpto_row_tie rfl ⟨rfl, rfl⟩ (by kernel_rfl) rfl
    (fun f fn hf hfn => by
      obtain rfl : f = 3 := Option.some.inj ((show Tryd.prog.funcNamed "weathercock/weathercocklaw12.SignNormals" = some 3 by kernel_rfl).symm.trans hf) |>.symm
      obtain rfl : fn = Tryd.f3 := (Option.some.inj (Tryd.func3.symm.trans hfn)).symm
      exact ⟨by kernel_rfl, fun j t ht => by
        rw [Tryd.params3] at ht
        have hm : t ∈ [26, 24] := by simpa using Array.mem_of_getElem? ht
        have hall : ([26, 24].all fun u => !Tryd.prog.wantsStandIn u) = true := by kernel_rfl
        exact (show Tryd.prog.wantsStandIn t = false by simpa using List.all_eq_true.1 hall t hm)⟩)
    (by kernel_rfl)
end Go.Proofs.YtklgoajgchfmeaaDoor
