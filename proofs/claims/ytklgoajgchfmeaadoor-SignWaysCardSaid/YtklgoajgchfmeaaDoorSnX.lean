/- A part of the proof. -/
import Derived.Test.YtklgoajgchfmeaaDoorKp
import Derived.StillTailTactics
set_option linter.unusedVariables false
set_option linter.unusedSimpArgs false
namespace Go.Proofs.YtklgoajgchfmeaaDoor
open Go.RowKit Go.Maps Go.ChangeShapes Go.Deep Go.Shelf
set_option maxRecDepth 100000
theorem code_world {c : Code} {Q : Exit → Act → World → Prop} {a : Act} {W W' : World} (h : Code.wp Tryd.prog c Q a W') (e : W = W') : Code.wp Tryd.prog c Q a W := e ▸ h
theorem ExMP.up {w w' : World} {P : Nat → Prop} {x : Ex} {cs : List Value} (h : ExMP w P x cs) (hb : Below w.heap.size w w') : ExMP w' P x cs := ExMP.on hb.size (fun k _ hk => hb.block k hk) (fun _ h _ => h) _ _ h
theorem ExLP.up {w w' : World} {P : Nat → Prop} {q : Option Addr} {i : Nat} {l : List Ex} (h : ExLP w P q i l) (hb : Below w.heap.size w w') : ExLP w' P q i l := ExLP.on hb.size (fun k _ hk => hb.block k hk) (fun _ h _ => h) _ _ _ h
theorem ExMP.or {w : World} {P : Nat → Prop} {x : Ex} {cs : List Value} {N : Nat} (h : ExMP w P x cs) : ExMP w (fun k => P k ∨ N ≤ k) x cs := ExMP.on (Nat.le_refl _) (fun _ _ _ => rfl) (fun _ h _ => .inl h) _ _ h
theorem turn_done (V : World) (B2 B3 : Obj) (T : TypeId) (P : Nat → Prop) (N : Nat) (hN : N ≤ V.heap.size) {op : Int} {v : Val} {rel col n : Int} {s : ByteArray} (hv : okVal v) {a b : Ex} {ca cb : List Value} (ha : ExMP V P a ca) (hb : ExMP V P b cb) :
    ExMP (((V.alloc B2).alloc B3).alloc (.cells (ca ++ cb).toArray T)) (fun k => P k ∨ N ≤ k) (.mk op v rel col n s [a, b]) (exCells op v rel col n s (some ⟨V.heap.size + 1 + 1, 0, none⟩) 2 2) ∧ Below V.heap.size V (((V.alloc B2).alloc B3).alloc (.cells (ca ++ cb).toArray T)) := by
  have K := KB.new ((V.alloc B2).alloc B3) (ca ++ cb) T
  have B : Below V.heap.size V (((V.alloc B2).alloc B3).alloc (.cells (ca ++ cb).toArray T)) := by (repeat (first | exact ext_refl _ | assumption | (refine ext_alloc ?_ _) | (refine ext_drewN ?_ _) | refine ext_drew ?_ | (refine ext_set (by first | (simp; done) | (simp; omega)) _ ?_) | (refine ext_trans ?_ (by assumption))))
  rw [show ((V.alloc B2).alloc B3).heap.size = V.heap.size + 1 + 1 by rw [World.size_alloc, World.size_alloc]] at K
  have ha := ha.up B
  have hb := hb.up B
  generalize ((V.alloc B2).alloc B3).alloc (.cells (ca ++ cb).toArray T) = U at K B ha hb ⊢
  exact ⟨ExMP.iff.2 ⟨hv, _, 2, rfl, Nat.le_refl _, ExLP.two (P := fun k => P k ∨ N ≤ k) ha.or hb.or K.lt (.inr (by omega)) K.c⟩, B⟩
set_option maxHeartbeats 8000000 in
theorem turned_any (P : Nat → Prop) (x : Ex) (cs : List Value) (w : World) (hx : ExMP w P x cs) :
    Calls Tryd.prog 21 #[.agg cs.toArray] w fun e w' => (∃ r : RawE, e = .returned (.agg r.cells.toArray) ∧ ExMP w' (fun k => P k ∨ w.heap.size ≤ k) (turnE x) r.cells) ∧ Below w.heap.size w w' := by
  have HX := Lib.hid hx
  obtain ⟨op, v, rel, col, n, s, l⟩ := x
  rw [ExMP.iff] at hx
  obtain ⟨hi, q, c, rfl, hc, hl⟩ := hx
  have HL := Lib.hid hl
  have HI := Lib.hid hi
  by_cases h2 : l.length = 2
  · match l, h2 with
    | [a, b], _ =>
      go_enter Tryd.func21, Tryd.ntmps21
      go_upto_region 4 with fail
      obtain ⟨W1, e1, K1, b1, s1⟩ := new_block w (exCells op v rel col n s q 2 c) 26 _ rfl
      obtain ⟨W3, e3⟩ : ∃ W3, (W1.alloc (.cells (exCells 0 zeroVal 0 0 0 ⟨#[]⟩ none 0 0).toArray 26)).alloc (.cells (exCells op v rel col n s q 2 c).toArray 26) = W3 := ⟨_, rfl⟩
      refine code_world (W' := W3) ?_ (by rw [← e3, ← e1]; rfl)
      rw [s1]
      have HB := Lib.hid b1
      have b3 : Below W1.heap.size W1 W3 := by rw [← e3]; (repeat (first | exact ext_refl _ | assumption | (refine ext_alloc ?_ _) | (refine ext_drewN ?_ _) | refine ext_drew ?_ | (refine ext_set (by first | (simp; done) | (simp; omega)) _ ?_) | (refine ext_trans ?_ (by assumption))))
      have HE := Lib.hid e3
      obtain ⟨g, hg⟩ : ∃ g, g = w.heap.size := ⟨_, rfl⟩
      rw [← hg] at K1 ⊢
      have HK := Lib.hid K1
      have HX0' := Lib.hid (ExLP.up HL.out b1)
      have K3 := K1.on b3
      clear b1 e1 s1 hg hl hi hc e3 K1
      obtain ⟨g0, off0, ca0, hq0, hg0, -, hx0, hc0⟩ := ExLP.at_ (j := 0) HX0'.out rfl
      obtain ⟨g1, off1, ca1, hq1, hg1, -, hx1, hc1⟩ := ExLP.at_ (j := 1) HX0'.out rfl
      obtain ⟨rfl, rfl⟩ : g0 = g1 ∧ off0 = off1 := by rw [hq0] at hq1; simpa using hq1
      subst hq0
      clear hq1 hg1
      have HX0 := Lib.hid hx0
      have HX1 := Lib.hid hx1
      obtain ⟨op0, v0, rel0, col0, n0, s0, l0⟩ := a
      obtain ⟨op1, v1, rel1, col1, n1, s1, l1⟩ := b
      rw [ExMP.iff] at hx0 hx1
      obtain ⟨-, qq0, cc0, rfl, -, -⟩ := hx0
      obtain ⟨-, qq1, cc1, rfl, -, -⟩ := hx1
      have f0 := (b3.cell (p := ⟨g0, off0 + (0 + 0) * 9 + 0, none⟩) hg0).trans (hc0 0 _ rfl)
      have f1 := (b3.cell (p := ⟨g0, off0 + (0 + 0) * 9 + 1, none⟩) hg0).trans (hc0 1 _ rfl)
      have f2 := (b3.cell (p := ⟨g0, off0 + (0 + 0) * 9 + 2, none⟩) hg0).trans (hc0 2 _ rfl)
      have f3 := (b3.cell (p := ⟨g0, off0 + (0 + 0) * 9 + 3, none⟩) hg0).trans (hc0 3 _ rfl)
      have f4 := (b3.cell (p := ⟨g0, off0 + (0 + 0) * 9 + 4, none⟩) hg0).trans (hc0 4 _ rfl)
      have f5 := (b3.cell (p := ⟨g0, off0 + (0 + 0) * 9 + 5, none⟩) hg0).trans (hc0 5 _ rfl)
      have f6 := (b3.cell (p := ⟨g0, off0 + (0 + 0) * 9 + 6, none⟩) hg0).trans (hc0 6 _ rfl)
      have f7 := (b3.cell (p := ⟨g0, off0 + (0 + 0) * 9 + 7, none⟩) hg0).trans (hc0 7 _ rfl)
      have f8 := (b3.cell (p := ⟨g0, off0 + (0 + 0) * 9 + 8, none⟩) hg0).trans (hc0 8 _ rfl)
      have k0 := (b3.cell (p := ⟨g0, off0 + (0 + 1) * 9 + 0, none⟩) hg0).trans (hc1 0 _ rfl)
      have k1 := (b3.cell (p := ⟨g0, off0 + (0 + 1) * 9 + 1, none⟩) hg0).trans (hc1 1 _ rfl)
      have k2 := (b3.cell (p := ⟨g0, off0 + (0 + 1) * 9 + 2, none⟩) hg0).trans (hc1 2 _ rfl)
      have k3 := (b3.cell (p := ⟨g0, off0 + (0 + 1) * 9 + 3, none⟩) hg0).trans (hc1 3 _ rfl)
      have k4 := (b3.cell (p := ⟨g0, off0 + (0 + 1) * 9 + 4, none⟩) hg0).trans (hc1 4 _ rfl)
      have k5 := (b3.cell (p := ⟨g0, off0 + (0 + 1) * 9 + 5, none⟩) hg0).trans (hc1 5 _ rfl)
      have k6 := (b3.cell (p := ⟨g0, off0 + (0 + 1) * 9 + 6, none⟩) hg0).trans (hc1 6 _ rfl)
      have k7 := (b3.cell (p := ⟨g0, off0 + (0 + 1) * 9 + 7, none⟩) hg0).trans (hc1 7 _ rfl)
      have k8 := (b3.cell (p := ⟨g0, off0 + (0 + 1) * 9 + 8, none⟩) hg0).trans (hc1 8 _ rfl)
      simp only [Nat.zero_add, Nat.add_zero, Nat.zero_mul, Nat.one_mul] at f0 f1 f2 f3 f4 f5 f6 f7 f8 k0 k1 k2 k3 k4 k5 k6 k7 k8
      have lt1 := K3.lt
      have a8 := K3.c 8 _ rfl
      have lt0 := Nat.lt_of_lt_of_le hg0 b3.size
      clear hc0 hc1 b3 K3
      go_still_tail 8, (by kernel_rfl)
      change wpList _ _ _ _ _ W3.drew
      rw [← HE.out]
      change wpList _ _ _ _ _ ((W1.drew.alloc (.cells (exCells 0 zeroVal 0 0 0 ⟨#[]⟩ none 0 0).toArray 26)).alloc (.cells (exCells op v rel col n s (some ⟨g0, off0, none⟩) 2 c).toArray 26))
      have b2 : Below W1.heap.size W1 W1.drew := ext_drew (ext_refl _)
      have HX0 := Lib.hid (ExMP.up HX0.out b2)
      have HX1 := Lib.hid (ExMP.up HX1.out b2)
      have HB := Lib.hid (HB.out.trans (b2.mono HB.out.size))
      have K1 := HK.out.on b2
      rw [show W1.heap.size = W1.drew.heap.size from rfl]
      clear b2 f0 f1 f2 f3 f4 f5 f6 f7 f8 k0 k1 k2 k3 k4 k5 k6 k7 k8 a8 lt1 hg0 HE HX0' HK lt0
      generalize W1.drew = V at K1 HX0 HX1 HB ⊢
      have lt1 := K1.lt
      have C := fun j => K1.c j
      have a0 := C 0 _ rfl
      have a1 := C 1 _ rfl
      have a2 := C 2 _ rfl
      have a3 := C 3 _ rfl
      have a4 := C 4 _ rfl
      have a5 := C 5 _ rfl
      have a6 := C 6 _ rfl
      have a7 := C 7 _ rfl
      have a8 := C 8 _ rfl
      clear C K1
      have lt2 : g < V.heap.size + 1 := by omega
      have lt3 : g < V.heap.size + 1 + 1 := by omega
      by_cases o9 : op = 9
      · subst o9
        go_wp2_with fail
        refine bodyPost_ret (v := .agg (exCells 9 v rel col n s (some ⟨V.heap.size + 1 + 1, 0, none⟩) 2 2).toArray) (by simp [results, Tryd.results21, go_sem]) rfl ?_
        refine ⟨⟨⟨9, v, rel, col, n, s, some ⟨V.heap.size + 1 + 1, 0, none⟩, 2, 2⟩, rfl, ?_⟩, ?_⟩
        · exact (turn_done V _ _ _ P w.heap.size HB.out.size (op := 9) HI.out HX1.out HX0.out).1
        · exact HB.out.trans ((turn_done V _ _ _ P w.heap.size HB.out.size (op := 9) (rel := rel) (col := col) (n := n) (s := s) HI.out HX1.out HX0.out).2.mono HB.out.size)
      by_cases o10 : op = 10
      · subst o10
        go_wp2_with fail
        refine bodyPost_ret (v := .agg (exCells 10 v rel col n s (some ⟨V.heap.size + 1 + 1, 0, none⟩) 2 2).toArray) (by simp [results, Tryd.results21, go_sem]) rfl ?_
        refine ⟨⟨⟨10, v, rel, col, n, s, some ⟨V.heap.size + 1 + 1, 0, none⟩, 2, 2⟩, rfl, ?_⟩, ?_⟩
        · exact (turn_done V _ _ _ P w.heap.size HB.out.size (op := 10) HI.out HX1.out HX0.out).1
        · exact HB.out.trans ((turn_done V _ _ _ P w.heap.size HB.out.size (op := 10) (rel := rel) (col := col) (n := n) (s := s) HI.out HX1.out HX0.out).2.mono HB.out.size)
      by_cases o11 : op = 11
      · subst o11
        go_wp2_with fail
        refine bodyPost_ret (v := .agg (exCells 13 v rel col n s (some ⟨V.heap.size + 1 + 1, 0, none⟩) 2 2).toArray) (by simp [results, Tryd.results21, go_sem]) rfl ?_
        refine ⟨⟨⟨13, v, rel, col, n, s, some ⟨V.heap.size + 1 + 1, 0, none⟩, 2, 2⟩, rfl, ?_⟩, ?_⟩
        · exact (turn_done V _ _ _ P w.heap.size HB.out.size (op := 13) HI.out HX1.out HX0.out).1
        · exact HB.out.trans ((turn_done V _ _ _ P w.heap.size HB.out.size (op := 13) (rel := rel) (col := col) (n := n) (s := s) HI.out HX1.out HX0.out).2.mono HB.out.size)
      by_cases o12 : op = 12
      · subst o12
        go_wp2_with fail
        refine bodyPost_ret (v := .agg (exCells 14 v rel col n s (some ⟨V.heap.size + 1 + 1, 0, none⟩) 2 2).toArray) (by simp [results, Tryd.results21, go_sem]) rfl ?_
        refine ⟨⟨⟨14, v, rel, col, n, s, some ⟨V.heap.size + 1 + 1, 0, none⟩, 2, 2⟩, rfl, ?_⟩, ?_⟩
        · exact (turn_done V _ _ _ P w.heap.size HB.out.size (op := 14) HI.out HX1.out HX0.out).1
        · exact HB.out.trans ((turn_done V _ _ _ P w.heap.size HB.out.size (op := 14) (rel := rel) (col := col) (n := n) (s := s) HI.out HX1.out HX0.out).2.mono HB.out.size)
      by_cases o13 : op = 13
      · subst o13
        go_wp2_with fail
        refine bodyPost_ret (v := .agg (exCells 11 v rel col n s (some ⟨V.heap.size + 1 + 1, 0, none⟩) 2 2).toArray) (by simp [results, Tryd.results21, go_sem]) rfl ?_
        refine ⟨⟨⟨11, v, rel, col, n, s, some ⟨V.heap.size + 1 + 1, 0, none⟩, 2, 2⟩, rfl, ?_⟩, ?_⟩
        · exact (turn_done V _ _ _ P w.heap.size HB.out.size (op := 11) HI.out HX1.out HX0.out).1
        · exact HB.out.trans ((turn_done V _ _ _ P w.heap.size HB.out.size (op := 11) (rel := rel) (col := col) (n := n) (s := s) HI.out HX1.out HX0.out).2.mono HB.out.size)
      by_cases o14 : op = 14
      · subst o14
        go_wp2_with fail
        refine bodyPost_ret (v := .agg (exCells 12 v rel col n s (some ⟨V.heap.size + 1 + 1, 0, none⟩) 2 2).toArray) (by simp [results, Tryd.results21, go_sem]) rfl ?_
        refine ⟨⟨⟨12, v, rel, col, n, s, some ⟨V.heap.size + 1 + 1, 0, none⟩, 2, 2⟩, rfl, ?_⟩, ?_⟩
        · exact (turn_done V _ _ _ P w.heap.size HB.out.size (op := 12) HI.out HX1.out HX0.out).1
        · exact HB.out.trans ((turn_done V _ _ _ P w.heap.size HB.out.size (op := 12) (rel := rel) (col := col) (n := n) (s := s) HI.out HX1.out HX0.out).2.mono HB.out.size)
      go_wp2_with fail
      refine bodyPost_ret (v := .agg (exCells op v rel col n s (some ⟨g0, off0, none⟩) 2 c).toArray) (by simp [results, Tryd.results21, go_sem]) rfl ?_
      refine ⟨⟨⟨op, v, rel, col, n, s, some ⟨g0, off0, none⟩, 2, c⟩, rfl, ?_⟩, ?_⟩
      · rw [turnE, if_neg (by omega), if_neg o11, if_neg o12, if_neg o13, if_neg o14]
        exact ExMP.or (ExMP.up HX.out (HB.out.trans ((turn_done V _ _ _ P w.heap.size HB.out.size (op := op) (rel := rel) (col := col) (n := n) (s := s) HI.out HX1.out HX0.out).2.mono HB.out.size)))
      · exact HB.out.trans ((turn_done V _ _ _ P w.heap.size HB.out.size (op := op) (rel := rel) (col := col) (n := n) (s := s) HI.out HX1.out HX0.out).2.mono HB.out.size)
  · have HT := Lib.hid (show turnE (.mk op v rel col n s l) = .mk op v rel col n s l by
      match l, h2 with
      | [], _ => rfl
      | [a], _ => rfl
      | [a, b], h => exact absurd rfl h
      | a :: b :: d :: r, _ => rfl)
    obtain ⟨k, hk⟩ : ∃ k, k = l.length := ⟨_, rfl⟩
    rw [← hk] at HX h2 ⊢
    clear hk
    go_enter Tryd.func21, Tryd.ntmps21
    go_wp2_with fail
    refine bodyPost_ret (v := .agg (exCells op v rel col n s q k c).toArray) (by simp [results, Tryd.results21, go_sem]) rfl ?_
    have hb : Below w.heap.size w ((w.alloc (.cells (exCells op v rel col n s q k c).toArray 26)).alloc (.cells (exCells op v rel col n s q k c).toArray 26)) := by (repeat (first | exact ext_refl _ | assumption | (refine ext_alloc ?_ _) | (refine ext_drewN ?_ _) | refine ext_drew ?_ | (refine ext_set (by first | (simp; done) | (simp; omega)) _ ?_) | (refine ext_trans ?_ (by assumption))))
    refine ⟨⟨⟨op, v, rel, col, n, s, q, k, c⟩, rfl, ?_⟩, hb⟩
    rw [HT.out]
    exact (HX.out.up hb).or
end Go.Proofs.YtklgoajgchfmeaaDoor
