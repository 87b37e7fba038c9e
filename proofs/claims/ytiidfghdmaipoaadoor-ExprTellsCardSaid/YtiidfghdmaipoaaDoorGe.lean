/- What the package-level variables hold when the call begins (the row lists it), as far as the code of layer 8 reads them; that it stays so. -/
import Derived.Test.YtiidfghdmaipoaaDoorVal
import Derived.Test.YtiidfghdmaipoaaDoorRows
import Derived.Lib.LaidU8
import Derived.Lib.SmallJoins
import Derived.Lib.ItoaNum
import Derived.Lib.LaidTab
import Derived.OpenShut
namespace Go.Proofs.YtiidfghdmaipoaaDoor
open Go.RowKit Go.ChangeShapes
set_option maxRecDepth 100000

/-- What an operation wants: how many operands, of what kind, what it yields, the greatest Rel and Col, the least and the greatest N. -/
def needT : List (List Int) := [[0,0,0,0,0,0,0],[0,0,0,0,0,0,0],[0,0,0,15,5,0,0],[0,0,0,0,0,1,4],[2,1,1,0,0,0,0],[2,1,1,0,0,0,0],[2,1,1,0,0,0,0],[2,1,1,0,0,0,0],[1,1,1,0,0,0,0],[2,-2,2,0,0,0,0],[2,-2,2,0,0,0,0],[2,-2,2,0,0,0,0],[2,-2,2,0,0,0,0],[2,-2,2,0,0,0,0],[2,-2,2,0,0,0,0],[2,2,2,0,0,0,0],[2,2,2,0,0,0,0],[1,2,2,0,0,0,0],[1,-1,2,0,0,0,0]]

structure GE (w : World) : Prop where
  size : 4 ≤ w.heap.size
  nd : ∀ (i j : Nat) (r : List Int) (z : Int), needT[i]? = some r → r[j]? = some z → w.cell? ⟨0, i * 7 + j, none⟩ = some (.int .i64 z)
  pow : Lib.TabIs Tryd.prog w "internal/strconv.uint64pow10" .u64 Lib.pow10Tab
theorem Tryd.gNd : Tryd.prog.globalNamed "weathercock/expr.needs" = some 0 := by kernel_rfl
theorem Tryd.gPw : Tryd.prog.globalNamed "internal/strconv.uint64pow10" = some 1 := by kernel_rfl
theorem Tryd.tNd : (Tryd.prog.globals[0]?).map (·.type) = some 77 := by kernel_rfl
theorem Tryd.tPw : (Tryd.prog.globals[1]?).map (·.type) = some 102 := by kernel_rfl
theorem GE.below {w w' : World} {n : Nat} (h : GE w) (hb : Below n w w') (hn : 4 ≤ n) : GE w' where
  size := Nat.le_trans h.size hb.size
  nd i j r z hi hj := (hb.cell (p := ⟨0, i * 7 + j, none⟩) (by show 0 < n; omega)).trans (h.nd i j r z hi hj)
  pow := by
    have h1 := h.pow
    unfold Lib.TabIs at h1 ⊢
    rw [← h1]
    unfold World.var?
    simp only [Tryd.gPw, Option.bind_some]
    have h2 := hb.block 1 (by show 1 < n; omega)
    first | rw [h2] | simp only [h2]
theorem GE.on {w w' : World} (h : GE w) (hb : Below w.heap.size w w') : GE w' := h.below hb h.size
theorem GE.alloc {w : World} (h : GE w) (o : Obj) : GE (w.alloc o) := h.on (ext_alloc (ext_refl _) _)
theorem GE.drew {w : World} (h : GE w) : GE w.drew := h.on (ext_drew (ext_refl _))
theorem GE.set {w : World} (h : GE w) {a : Addr} (ha : 4 ≤ a.block) (v : Value) : GE (w.setCell a v) := h.below ((Below.refl 4 w).setCell ha v) (Nat.le_refl _)

theorem list7 {α : Type} : ∀ {l : List α}, l.length = 7 → ∃ a b c d e f g, l = [a, b, c, d, e, f, g]
  | [a, b, c, d, e, f, g], _ => ⟨a, b, c, d, e, f, g, rfl⟩

theorem cells_need {w : World} {base : Nat} {sp : Nat → Bool} {held : Bool} {fuel : Nat} {cs : List Value} {r : List Int} {p : List MemPlace} {d : DataW Unit}
    (h : DataW.trod (fun _ => ()) Tryd.prog w base sp held fuel 76 cs = some (d, p)) (hd : d = .agg (r.map fun z => .lit (.int .i64 z))) (j : Nat) (z : Int) (hj : r[j]? = some z) : cs[j]? = some (.int .i64 z) := by
  obtain ⟨xs, n', _, ex, hl, hlen, hf⟩ := DataW.trod_struct Tryd.underlying76 h
  have cN : Tryd.prog.cellsOf 76 = 7 := by kernel_rfl
  have c1 : Tryd.prog.cellsOf 3 = 1 := by kernel_rfl
  rw [cN] at hl
  have e3 : xs.map (·.1) = r.map fun z => (.lit (.int .i64 z) : DataW Unit) := by
    have h0 := (Prod.mk.inj ex).1
    rw [hd] at h0
    exact (DataW.agg.inj h0).symm
  obtain ⟨y0, y1, y2, y3, y4, y5, y6, rfl⟩ := list7 (show xs.length = 7 from hlen)
  obtain ⟨v0, v1, v2, v3, v4, v5, v6, rfl⟩ := list7 hl
  · skip
    have h0 := hf 0 _ rfl
    have h1 := hf 1 _ rfl
    have h2 := hf 2 _ rfl
    have h3 := hf 3 _ rfl
    have h4 := hf 4 _ rfl
    have h5 := hf 5 _ rfl
    have h6 := hf 6 _ rfl
    clear hf h
    simp only [List.getElem?_cons_zero, List.getElem?_cons_succ] at h0 h1 h2 h3 h4 h5 h6
    obtain ⟨a0, e0, f0, _⟩ := DataW.trod_int Tryd.underlying3 h0
    obtain ⟨a1, e1, f1, _⟩ := DataW.trod_int Tryd.underlying3 h1
    obtain ⟨a2, e2, f2, _⟩ := DataW.trod_int Tryd.underlying3 h2
    obtain ⟨a3, e4, f3, _⟩ := DataW.trod_int Tryd.underlying3 h3
    obtain ⟨a4, e5, f4, _⟩ := DataW.trod_int Tryd.underlying3 h4
    obtain ⟨a5, e6, f5, _⟩ := DataW.trod_int Tryd.underlying3 h5
    obtain ⟨a6, e7, f6, _⟩ := DataW.trod_int Tryd.underlying3 h6
    simp [c1] at e0 e1 e2 e4 e5 e6 e7
    subst e0 e1 e2 e4 e5 e6 e7
    have e8 : (r.map fun z => (.lit (.int .i64 z) : DataW Unit))[j]? = some (.lit (.int .i64 z)) := by rw [List.getElem?_map, hj]; rfl
    rw [← e3] at e8
    simp only [List.map_cons, List.map_nil, f0, f1, f2, f3, f4, f5, f6] at e8
    match j, e8 with
    | 0, e8 => simpa using e8
    | 1, e8 => simpa using e8
    | 2, e8 => simpa using e8
    | 3, e8 => simpa using e8
    | 4, e8 => simpa using e8
    | 5, e8 => simpa using e8
    | 6, e8 => simpa using e8

theorem cells_needs {w : World} {base : Nat} {sp : Nat → Bool} {held : Bool} {fuel : Nat} {cs : List Value} {zs : List (List Int)} {p : List MemPlace}
    (h : DataW.trod (fun _ => ()) Tryd.prog w base sp held fuel 77 cs = some (.agg (zs.map fun r => .agg (r.map fun z => .lit (.int .i64 z))), p)) (i j : Nat) (r : List Int) (z : Int) (hi : zs[i]? = some r) (hj : r[j]? = some z) (hj7 : j < 7) : cs[i * 7 + j]? = some (.int .i64 z) := by
  obtain ⟨xs, m, _, ex, _, hl, hel⟩ := DataW.trod_array Tryd.underlying77 h
  have c1 : Tryd.prog.cellsOf 76 = 7 := by kernel_rfl
  have e3 : xs.map (·.1) = zs.map fun r => (.agg (r.map fun z => .lit (.int .i64 z)) : DataW Unit) := (DataW.agg.inj (Prod.mk.inj ex).1).symm
  have e4 : (xs.map (·.1))[i]? = some (.agg (r.map fun z => .lit (.int .i64 z))) := by rw [e3, List.getElem?_map, hi]; rfl
  rw [List.getElem?_map] at e4
  obtain ⟨x, hx, hx1⟩ := Option.map_eq_some_iff.1 e4
  have hlt : i < xs.length := (List.getElem?_eq_some_iff.1 hx).1
  have hE := hel i (by omega)
  rw [hx] at hE
  have h0 := cells_need (d := x.1) (p := x.2) hE hx1 j z hj
  rw [c1] at h0
  rw [List.getElem?_take, if_pos hj7, List.getElem?_drop] at h0
  exact h0

theorem GE.of_reads {W : World} (h0 : 4 ≤ W.heap.size) (h1 : Lib.VarReads Tryd.prog W "weathercock/expr.needs" Rows.laid_weathercock_expr_needs) (h2 : Lib.VarReads Tryd.prog W "internal/strconv.uint64pow10" Rows.laid_internal_strconv_uint64pow10) : GE W where
  size := h0
  nd i j r z hi hj := by
    obtain ⟨g, t, cs, fuel, p, hg, ht, hv, hd⟩ := h1
    obtain rfl := Option.some.inj (Tryd.gNd.symm.trans hg)
    obtain rfl := Option.some.inj (Tryd.tNd.symm.trans ht)
    rw [World.var?_cell hg hv (i * 7 + j)]
    have e : (Rows.laid_weathercock_expr_needs : DataW Unit) = .agg (needT.map fun r => .agg (r.map fun z => .lit (.int .i64 z))) := rfl
    rw [e] at hd
    have h7 : j < 7 := by
      have h8 : r.length = 7 := by
        have : ∀ r ∈ needT, r.length = 7 := by decide
        exact this r (List.mem_of_getElem? hi)
      rw [← h8]
      exact (List.getElem?_eq_some_iff.1 hj).1
    simpa using cells_needs hd i j r z hi hj h7
  pow := by
    obtain ⟨g, t, cs, fuel, p, hg, ht, hv, hd⟩ := h2
    obtain rfl := Option.some.inj (Tryd.gPw.symm.trans hg)
    obtain rfl := Option.some.inj (Tryd.tPw.symm.trans ht)
    have e : (Rows.laid_internal_strconv_uint64pow10 : DataW Unit) = Lib.tabData .u64 Lib.pow10Tab := by kernel_rfl
    rw [e] at hd
    have hcs := Lib.cells_of_tab Tryd.underlying102 Tryd.underlying92 (by kernel_rfl) (by kernel_rfl) hd
    unfold Lib.TabIs
    rw [hv, ← hcs]

end Go.Proofs.YtiidfghdmaipoaaDoor
