/- What the package-level variables hold when the call begins (the row lists it), as far as the code of layer 7 reads them; that it stays so. -/
import Derived.Test.YtgmmbfcjjgehoaaGreatDoorVal
import Derived.Test.YtgmmbfcjjgehoaaGreatDoorRows
import Derived.Test.YtgmmbfcjjgehoaaGreatDoorBs
import Derived.Lib.LaidU8
import Derived.Lib.Space
import Derived.OpenShut
import Derived.Stop.LaidErr
namespace Go.Proofs.YtgmmbfcjjgehoaaGreatDoor
open Go.RowKit Go.ChangeShapes
set_option maxRecDepth 100000

def signsL : List Bs := [[60, 61], [62, 61], [60, 62], [60], [62], [61], [43], [45], [42], [47], [40], [41], [44], [46]]

structure GV (w : World) : Prop where
  size : 12 ≤ w.heap.size
  sg : ∀ (i : Nat) (b : Bs), signsL[i]? = some b → w.cell? ⟨0, i, none⟩ = some (.string (bsB b))
  sp : ∀ c : Nat, c < 256 → w.cell? ⟨1, c, none⟩ = some (.int .u8 (if Lib.isSp (UInt8.ofNat c) then 1 else 0))
  er : ∃ t p, w.cell? ⟨4, 0, none⟩ = some (.iface t p)
theorem GV.below {w w' : World} {n : Nat} (h : GV w) (hb : Below n w w') (hn : 12 ≤ n) : GV w' where
  size := Nat.le_trans h.size hb.size
  sg i b hi := (hb.cell (p := ⟨0, i, none⟩) (by show 0 < n; omega)).trans (h.sg i b hi)
  sp c hc := (hb.cell (p := ⟨1, c, none⟩) (by show 1 < n; omega)).trans (h.sp c hc)
  er := by
    obtain ⟨t, p, e⟩ := h.er
    exact ⟨t, p, (hb.cell (p := ⟨4, 0, none⟩) (by show 4 < n; omega)).trans e⟩
theorem GV.on {w w' : World} (h : GV w) (hb : Below w.heap.size w w') : GV w' := h.below hb h.size
theorem GV.alloc {w : World} (h : GV w) (o : Obj) : GV (w.alloc o) := h.on (ext_alloc (ext_refl _) _)
theorem GV.drew {w : World} (h : GV w) : GV w.drew := h.on (ext_drew (ext_refl _))
theorem GV.set {w : World} (h : GV w) {a : Addr} (ha : 12 ≤ a.block) (v : Value) : GV (w.setCell a v) := h.below ((Below.refl 12 w).setCell ha v) (Nat.le_refl _)

theorem Tryz.gSg : Tryz.prog.globalNamed "weathercock/lex.signs" = some 0 := by kernel_rfl
theorem Tryz.gSp : Tryz.prog.globalNamed "strings.asciiSpace" = some 1 := by kernel_rfl
theorem Tryz.gEr : Tryz.prog.globalNamed "strconv.ErrRange" = some 4 := by kernel_rfl
theorem Tryz.tSg : (Tryz.prog.globals[0]?).map (·.type) = some 123 := by kernel_rfl
theorem Tryz.tSp : (Tryz.prog.globals[1]?).map (·.type) = some 130 := by kernel_rfl
theorem Tryz.tEr : (Tryz.prog.globals[4]?).map (·.type) = some 119 := by kernel_rfl

/-- An array of texts that reads as a list holds its texts, cell for cell. -/
theorem cells_of_texts {w : World} {base : Nat} {sp : Nat → Bool} {held : Bool} {fuel : Nat} {cs : List Value} {zs : List Bs} {p : List MemPlace}
    (h : DataW.trod (fun _ => ()) Tryz.prog w base sp held fuel 123 cs = some (.agg (zs.map fun z => .lit (.string z)), p)) (i : Nat) (b : Bs) (hi : zs[i]? = some b) : cs[i]? = some (.string (bsB b)) := by
  obtain ⟨xs, m, _, ex, _, hl, hel⟩ := DataW.trod_array Tryz.underlying123 h
  have c1 : Tryz.prog.cellsOf 9 = 1 := by kernel_rfl
  have e3 : xs.map (·.1) = zs.map fun z => (.lit (.string z) : DataW Unit) := (DataW.agg.inj (Prod.mk.inj ex).1).symm
  have e4 : (xs.map (·.1))[i]? = some (.lit (.string b)) := by rw [e3, List.getElem?_map, hi]; rfl
  rw [List.getElem?_map] at e4
  obtain ⟨x, hx, hx1⟩ := Option.map_eq_some_iff.1 e4
  have hlt : i < xs.length := (List.getElem?_eq_some_iff.1 hx).1
  have hE := hel i (by omega)
  rw [hx] at hE
  obtain ⟨s, e1, e2, _⟩ := DataW.trod_string Tryz.underlying9 hE
  rw [e2] at hx1
  simp only [DataW.lit.injEq, Lit.string.injEq] at hx1
  rw [c1, Nat.mul_one] at e1
  have h0 : ((cs.drop i).take 1)[0]? = some (.string s) := by rw [e1]; rfl
  have h1 : cs[i]? = some (.string s) := by simpa using h0
  rw [h1, show s = bsB b from by rw [← hx1]]

theorem GV.of_reads {W : World} (h0 : 12 ≤ W.heap.size) (h1 : Lib.VarReads Tryz.prog W "weathercock/lex.signs" Rows.laid_weathercock_lex_signs) (h2 : Lib.VarReads Tryz.prog W "strings.asciiSpace" Rows.laid_strings_asciiSpace)
    (h3 : Lib.VarReads Tryz.prog W "strconv.ErrRange" Rows.laid_strconv_ErrRange) : GV W where
  size := h0
  sg i b hi := by
    obtain ⟨g, t, cs, fuel, p, hg, ht, hv, hd⟩ := h1
    obtain rfl := Option.some.inj (Tryz.gSg.symm.trans hg)
    obtain rfl := Option.some.inj (Tryz.tSg.symm.trans ht)
    rw [World.var?_cell hg hv i]
    have e : (Rows.laid_weathercock_lex_signs : DataW Unit) = .agg (signsL.map fun z => .lit (.string z)) := rfl
    rw [e] at hd
    simpa using cells_of_texts hd i b hi
  sp c hc := by
    obtain ⟨g, t, cs, fuel, p, hg, ht, hv, hd⟩ := h2
    obtain rfl := Option.some.inj (Tryz.gSp.symm.trans hg)
    obtain rfl := Option.some.inj (Tryz.tSp.symm.trans ht)
    rw [World.var?_cell hg hv c]
    have e : (Rows.laid_strings_asciiSpace : DataW Unit) = Lib.tabData .u8 Lib.asciiSpaceTab := by kernel_rfl
    rw [e] at hd
    have hcs := Lib.cells_of_tab Tryz.underlying130 Tryz.underlying5 (by kernel_rfl) (by kernel_rfl) hd
    have hl : c < Lib.asciiSpaceTab.length := by rw [Lib.asciiSpaceTab_length]; exact hc
    have : cs.toList[c]? = some (.int .u8 (Lib.asciiSpaceTab.getD c 0)) := by
      rw [hcs, List.getElem?_map, List.getElem?_eq_getElem hl, List.getD, List.getElem?_eq_getElem hl]; rfl
    rw [Lib.asciiSpaceTab_at c hc] at this
    simpa using this
  er := by
    obtain ⟨g, t, cs, fuel, p, hg, ht, hv, hd⟩ := h3
    obtain rfl := Option.some.inj (Tryz.gEr.symm.trans hg)
    obtain rfl := Option.some.inj (Tryz.tEr.symm.trans ht)
    obtain ⟨f1, u, v, e, _, _⟩ := iface_of_trod Tryz.underlying119 hd
    refine ⟨u, v, ?_⟩
    rw [World.var?_cell hg hv 0]
    have : cs.toList[0]? = some (.iface u v) := by rw [e]; rfl
    simpa using this

end Go.Proofs.YtgmmbfcjjgehoaaGreatDoor
