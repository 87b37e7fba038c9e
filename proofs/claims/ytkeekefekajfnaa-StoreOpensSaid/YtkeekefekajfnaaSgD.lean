/- The store's own checks of a table, and of a list of tables. -/
import Derived.Test.YtkeekefekajfnaaSgC
import Derived.Test.YtkeekefekajfnaaRowRight
namespace Go.Proofs.Ytkeekefekajfnaa
open Go.RowKit

/-- A row's values by their places. -/
def atV (r : List Val) (i : Nat) : Val := (r[i]?).getD nul
theorem atV_some {r : List Val} {i : Nat} {v : Val} (h : r[i]? = some v) : atV r i = v := by unfold atV; rw [h]; rfl
theorem ValsA.rowP {w : World} {lo hi : Nat} {q : Option Addr} {r : List Val} (h : ValsA w lo hi q r) (hh : hi ≤ w.heap.size) : RowP w q r.length (atV r) := by
  by_cases h0 : 0 < r.length
  · obtain ⟨g, off, hq, h1, h2, h3⟩ := h 0 h0
    have c : ∀ i, i < r.length → valC w g (off + i * 3) (atV r i) := fun i hi => by
      have e := List.getElem?_eq_getElem hi
      rw [atV_some e]
      exact h3 i _ e
    exact .inr ⟨g, off, hq, fun _ => by omega, fun i hi => (c i hi).1, fun i hi => (c i hi).2.1, fun i hi => (c i hi).2.2⟩
  · exact .inl (by omega)
theorem allRight_iff {n : Nat} {x : Nat → Val} : allRight n x = true ↔ ∀ i, i < n → (x i).right = true := by
  induction n with
  | zero => exact ⟨fun _ i h => absurd h (Nat.not_lt_zero _), fun _ => rfl⟩
  | succ n ih =>
    unfold allRight
    rw [Bool.and_eq_true, ih]
    refine ⟨fun h i hi => ?_, fun h => ⟨fun i hi => h i (by omega), h n (by omega)⟩⟩
    by_cases e : i = n
    · rw [e]; exact h.2
    · exact h.1 i (by omega)
/-- A row is right by itself. -/
def RightP (r : List Val) : Prop := r.length ≤ 100 ∧ ∀ (i : Nat) (v : Val), r[i]? = some v → v.right = true
theorem rowRight_tells (r : List Val) (p : Option Addr) (c bl bh : Nat) (w : World) (hl : r.length ≤ 9223372036854775807) (hR : ValsA w bl bh p r) (hh : bh ≤ w.heap.size) :
    Calls Try.prog 42 #[.slice p r.length c] w fun e w' => Tells (RightP r) e ∧ Below w.heap.size w w' :=
  (rowRight_any p r.length c (atV r) w hl (hR.rowP hh)).mono fun e w' ⟨he, hb⟩ => ⟨⟨_, he, by
    rw [Bool.and_eq_true, allRight_iff, decide_eq_true_iff]
    refine ⟨fun h => ⟨h.2, fun i v hv => ?_⟩, fun h => ⟨fun i hi => ?_, h.1⟩⟩
    · rw [← atV_some hv]
      exact h.1 i (List.getElem?_eq_some_iff.1 hv).1
    · have e := List.getElem?_eq_getElem hi
      rw [atV_some e]
      exact h.2 i _ e⟩, hb⟩
theorem rowOK_iff {cols : List Col} {r : List Val} (h6 : cols.length ≤ 6) : RowOK cols r ↔ RightP r ∧ FitsP r cols := by
  constructor
  · intro h
    refine ⟨⟨by have := h.1; omega, fun i v hv => ?_⟩, h.1, fun i v c hv hc => (h.2 i v c hv hc).2⟩
    have hi := (List.getElem?_eq_some_iff.1 hv).1
    exact (h.2 i v _ hv (List.getElem?_eq_getElem (by have := h.1; omega))).1
  · intro h
    exact ⟨h.2.1, fun i v c hv hc => ⟨h.1.2 i v hv, h.2.2 i v c hv hc⟩⟩

/-- A table that is right but for its name. -/
def TabQ (t : Tab) : Prop := ColsQ t.cols ∧ t.rows.length ≤ 20 ∧ ∀ (i : Nat) (r : List Val), t.rows[i]? = some r → RowOK t.cols r
theorem tabP_iff {t : Tab} : TabP t ↔ NameP t.nm ∧ TabQ t := ⟨fun h => ⟨h.1, ⟨h.2.1, h.2.2.2.1⟩, h.2.2.1, h.2.2.2.2⟩, fun h => ⟨h.1, h.2.1.1, h.2.2.1, h.2.1.2, h.2.2.2⟩⟩

set_option maxRecDepth 100000 in
set_option maxHeartbeats 4000000 in
theorem rightTable_any (t : Tab) (p p' : Option Addr) (c c' bl bh : Nat) (w : World) (hc1 : t.cols.length ≤ c) (hc2 : c ≤ 9223372036854775807) (_ : t.rows.length ≤ c') (_ : c' ≤ 9223372036854775807)
    (hC : ColsA w bl bh p t.cols) (hR : RowsA w bl bh p' t.rows) (hh : bh ≤ w.heap.size) :
    Calls Try.prog 28 #[tabV t p p' c c'] w fun e w' => Tells (TabQ t) e ∧ Below w.heap.size w w' := by
  have HC := Lib.hid hC
  have HR := Lib.hid hR
  clear hC hR
  have hB0 := ext_alloc (ext_refl w) (.cells #[.string t.nm, .slice p t.cols.length c, .slice p' t.rows.length c'] 30)
  go_enter Try.func28, Try.ntmps28
  go_wp2_with fail
  refine (rightColumns_any t.cols p c bl bh _ hc1 hc2 (HC.out.same (Same.of hB0 hh)) (by simp; omega)).mono ?_
  rintro e w1 ⟨⟨b1, rfl, hb1⟩, hB⟩
  have q1 : w1.cell? ⟨w.heap.size, 1, none⟩ = some (.slice p t.cols.length c) := (hB.cell (p := ⟨w.heap.size, 1, none⟩) (by simp)).trans (by rw [Lib.cell_of_heap (heap_alloc_new w _)]; rfl)
  have q2 : w1.cell? ⟨w.heap.size, 2, none⟩ = some (.slice p' t.rows.length c') := (hB.cell (p := ⟨w.heap.size, 2, none⟩) (by simp)).trans (by rw [Lib.cell_of_heap (heap_alloc_new w _)]; rfl)
  have hs1 : w.heap.size < w1.heap.size := by have := hB.size; simp at this; omega
  have E1 := Lib.hid (show Below w.heap.size w w1 from hB0.trans (hB.mono (by simp)))
  clear hB hB0
  cases b1 with
  | false =>
    have H1 := Lib.hid hb1
    clear hb1
    go_wp2
    go_ret
    exact ⟨Tells.no (fun h => by cases H1.out.2 h.1), E1.out⟩
  | true =>
    have H1 := Lib.hid (hb1.1 rfl)
    clear hb1
    by_cases l20 : t.rows.length ≤ 20
    · go_wp2
      go_loopw [18] (fun vi wr => ∃ i : Nat, vi = .int .i64 i ∧ i ≤ t.rows.length ∧ Hid ((∀ (j : Nat) (r : List Val), j < i → t.rows[j]? = some r → RowOK t.cols r) ∧ Below w1.heap.size w1 wr)) (fun vi _ => t.rows.length - (intOf vi).toNat)
      case atStart => exact ⟨0, rfl, Nat.zero_le _, fun j d hj => absurd hj (Nat.not_lt_zero _), Below.refl _ _⟩
      case round =>
        obtain ⟨i, rfl, hi, HH⟩ := hrel
        have r1 := (HH.out.2.cell (p := ⟨w.heap.size, 1, none⟩) hs1).trans q1
        obtain ⟨V, hV⟩ : ∃ V, V = wr := ⟨_, rfl⟩
        subst hV
        have EV := Lib.hid (show Below w.heap.size w V from E1.out.trans (HH.out.2.mono (Nat.le_of_lt hs1)))
        have hsV : w1.heap.size ≤ V.heap.size := HH.out.2.size
        by_cases hlt : i < t.rows.length
        · obtain ⟨g, off, rfl, hg1, hg2, hcA⟩ := (HR.out.same (Same.of EV.out hh)) i hlt
          obtain ⟨x, hx⟩ : ∃ x, x = t.rows[i] := ⟨_, rfl⟩
          have hxi : t.rows[i]? = some x := by rw [hx]; exact List.getElem?_eq_getElem hlt
          have HX := Lib.hid hxi
          obtain ⟨pr, cr, a0, a1, a2, hA⟩ := hcA i x hxi
          rw [Nat.mul_one] at a0
          have HA := Lib.hid hA
          clear hx hxi hcA hA
          go_wp2_with fail
          refine (rowRight_tells x pr cr bl bh V (by omega) HA.out (by omega)).mono ?_
          rintro e w2 ⟨⟨b2, rfl, hb2⟩, hB2⟩
          have z1 := (hB2.cell (p := ⟨w.heap.size, 1, none⟩) (show w.heap.size < V.heap.size by omega)).trans r1
          have hs2 := hB2.size
          have HB2 := Lib.hid hB2
          have H2 := Lib.hid hb2
          clear hB2 hb2 r1
          cases b2 with
          | false =>
            go_wp2
            go_ret
            exact ⟨Tells.no (fun h => by cases H2.out.2 ((rowOK_iff h.1.1.2).1 (h.2.2 i x HX.out)).1), EV.out.trans (HB2.out.mono (by omega))⟩
          | true =>
            go_wp2_with fail
            refine (fits_any x t.cols pr p cr c bl bh w2 a1 a2 hc1 hc2 (HA.out.same (Same.of HB2.out (by omega))) (HC.out.same (Same.of (EV.out.trans (HB2.out.mono (by omega))) hh)) (by omega)).mono ?_
            rintro e w3 ⟨⟨b3, rfl, hb3⟩, hB3⟩
            have hs3 := hB3.size
            have HB3 := Lib.hid hB3
            have H3 := Lib.hid hb3
            have E3 := Lib.hid (show Below w1.heap.size w1 w3 from HH.out.2.trans ((HB2.out.trans (hB3.mono hs2)).mono hsV))
            clear hB3 hb3 z1
            cases b3 with
            | false =>
              go_wp2
              go_ret
              exact ⟨Tells.no (fun h => by cases H3.out.2 ((rowOK_iff h.1.1.2).1 (h.2.2 i x HX.out)).2), E1.out.trans (E3.out.mono (by omega))⟩
            | true =>
              have nx : Hid ((∀ (j : Nat) (r : List Val), j < i + 1 → t.rows[j]? = some r → RowOK t.cols r) ∧ Below w1.heap.size w1 w3) := ⟨fun j d hj hd => by
                by_cases ej : j = i
                · subst ej
                  rw [HX.out] at hd
                  cases hd
                  exact (rowOK_iff H1.out.1.2).2 ⟨H2.out.1 (by simp), H3.out.1 (by simp)⟩
                · exact HH.out.1 j d (by omega) hd, E3.out⟩
              go_wp2
              go_roundw
              case rel => exact ⟨i + 1, by go_num, hlt, nx⟩
              case measure => simp [intOf] <;> omega
        · go_wp2
          go_ret
          exact ⟨Tells.yes ⟨H1.out, l20, fun j u hu => HH.out.1 j u (by have := (List.getElem?_eq_some_iff.1 hu).1; omega) hu⟩, EV.out⟩
    · go_wp2
      go_ret
      exact ⟨Tells.no (fun h => l20 h.2.1), E1.out⟩

set_option maxRecDepth 100000 in
set_option maxHeartbeats 4000000 in
theorem sright_any (l : List Tab) (p : Option Addr) (c bl bh : Nat) (w : World) (hc : l.length ≤ c) (hc2 : c ≤ 9223372036854775807) (hT : TabsA w bl bh p l) (hh : bh ≤ w.heap.size) :
    Calls Try.prog 11 #[.slice p l.length c] w fun e w' => Tells (TabsP l) e ∧ Below w.heap.size w w' := by
  have HT := Lib.hid hT
  clear hT
  by_cases l8 : l.length ≤ 8
  · go_enter Try.func11, Try.ntmps11
    go_wp2
    go_loopw [10] (fun vi wr => ∃ i : Nat, vi = .int .i64 i ∧ i ≤ l.length ∧ Hid ((∀ (j : Nat) (t : Tab), j < i → l[j]? = some t → TabOK l j t) ∧ Below w.heap.size w wr)) (fun vi _ => l.length - (intOf vi).toNat)
    case atStart => exact ⟨0, rfl, Nat.zero_le _, fun j d hj => absurd hj (Nat.not_lt_zero _), Below.refl _ _⟩
    case round =>
      obtain ⟨i, rfl, hi, HH⟩ := hrel
      obtain ⟨V, hV⟩ : ∃ V, V = wr := ⟨_, rfl⟩
      subst hV
      have hsV : w.heap.size ≤ V.heap.size := HH.out.2.size
      by_cases hlt : i < l.length
      · obtain ⟨g, off, rfl, hg1, hg2, hcA⟩ := (HT.out.same (Same.of HH.out.2 hh)) i hlt
        obtain ⟨t, ht⟩ : ∃ t, t = l[i] := ⟨_, rfl⟩
        have hti : l[i]? = some t := by rw [ht]; exact List.getElem?_eq_getElem hlt
        have HTI := Lib.hid hti
        obtain ⟨⟨a0, a3⟩, ⟨p1, c1, a1, a4, a5, hC⟩, p2, c2, a2, a6, a7, hR⟩ := hcA i t hti
        obtain ⟨G, hG⟩ : ∃ G, G = V.alloc (.cells #[.string t.nm, .slice p1 t.cols.length c1, .slice p2 t.rows.length c2] 30) := ⟨_, rfl⟩
        have k0 : G.cell? ⟨V.heap.size, 0, none⟩ = some (.string t.nm) := by rw [hG, Lib.cell_of_heap (heap_alloc_new V _)]; rfl
        have k1 : G.cell? ⟨V.heap.size, 1, none⟩ = some (.slice p1 t.cols.length c1) := by rw [hG, Lib.cell_of_heap (heap_alloc_new V _)]; rfl
        have k2 : G.cell? ⟨V.heap.size, 2, none⟩ = some (.slice p2 t.rows.length c2) := by rw [hG, Lib.cell_of_heap (heap_alloc_new V _)]; rfl
        have hB : Below V.heap.size V G := by rw [hG]; exact ext_alloc (ext_refl V) _
        have hsG : V.heap.size < G.heap.size := by rw [hG]; simp
        have EG := Lib.hid (show Below w.heap.size w G from ext_trans HH.out.2 hB)
        have d0 := fun (z : After G) => (z.cell V.heap.size 0 hsG).trans k0
        have d1 := fun (z : After G) => (z.cell V.heap.size 1 hsG).trans k1
        have d2 := fun (z : After G) => (z.cell V.heap.size 2 hsG).trans k2
        have HPL := Lib.hid (show ∀ W, Below G.heap.size G W → Calls Try.prog 27 #[.slice (some ⟨g, off, none⟩) i c, .string t.nm] W fun e w' => e = .returned (.int .i64 (findT t.nm (l.take i))) ∧ Below W.heap.size W w' from fun W hb =>
          place_any (l.take i) t.nm _ i c bl bh W (by rw [List.length_take]; omega) (by omega) hc2 ((HT.out.same (Same.of (EG.out.trans (hb.mono EG.out.size)) hh)).take i) (by have := hb.size; omega))
        have HNM := Lib.hid (show ∀ W, Calls Try.prog 9 #[.string t.nm] W fun e w' => Tells (NameP t.nm) e ∧ Below W.heap.size W w' from fun W => (sname_any t.nm W a3).mono fun e w' h => ⟨h.1, by rw [h.2]; exact Below.refl _ _⟩)
        have HTB := Lib.hid (show ∀ W, Below G.heap.size G W → Calls Try.prog 28 #[tabV t p1 p2 c1 c2] W fun e w' => Tells (TabQ t) e ∧ Below W.heap.size W w' from fun W hb =>
          rightTable_any t p1 p2 c1 c2 bl bh W a4 a5 a6 a7 (hC.same (Same.of ((show Below V.heap.size V W from hB.trans (hb.mono (Nat.le_of_lt hsG))).mono (Nat.le_refl _)) (by omega))) (hR.same (Same.of (show Below V.heap.size V W from hB.trans (hb.mono (Nat.le_of_lt hsG))) (by omega))) (by have := hb.size; omega))
        have hic : i ≤ c := by omega
        have is := After.some G
        clear ht hti hcA a3 hC hR k0 k1 k2 hB
        by_cases hN : NameP t.nm
        · have N := Lib.hid (show ∀ W, Calls Try.prog 9 #[.string t.nm] W fun e w' => e = .returned (.bool true) ∧ Below W.heap.size W w' from fun W => (HNM.out W).mono fun e w' h => ⟨h.1.yes_of hN, h.2⟩)
          have HN := Lib.hid hN
          clear hN
          obtain ⟨k, hk⟩ : ∃ k, k = findT t.nm (l.take i) := ⟨_, rfl⟩
          rw [← hk] at HPL
          by_cases hF : 0 ≤ k
          · have HF := Lib.hid (show 0 ≤ findT t.nm (l.take i) by rw [← hk]; exact hF)
            clear hk
            go_wp2_with fail
            rw [← hG]
            clear hG
            refine wp_region_after (by kernel_rfl) (by kernel_rfl) ?_
            repeat (quiet_step ((first | (go_at_call 9; exact calls_after (N.out _)) | (go_at_call 27; exact calls_after (HPL.out _ (After.below _))))))
            refine wpQuiet_nil ?_
            intro _ hw
            obtain ⟨⟨W1, hb1⟩, rfl⟩ := hw
            have B1 := Lib.hid hb1
            clear is d0 d1 d2 hb1
            go_wp2
            go_ret
            exact ⟨Tells.no (fun h => by
              obtain ⟨j, u, hj, hu, e⟩ := findT_take HF.out
              exact (h.2 i t HTI.out).2 j u hj hu e), EG.out.trans (B1.out.mono (by omega))⟩
          · have HF := Lib.hid (show ∀ (j : Nat) (u : Tab), j < i → l[j]? = some u → u.nm.toList ≠ t.nm.toList from fun j d hj hd e => hF (by rw [hk]; exact findT_some t.nm (l.take i) j d (by rw [List.getElem?_take, if_pos hj]; exact hd) e))
            have hF' : k < 0 := by omega
            clear hk hF
            by_cases hQ : TabQ t
            · have K := Lib.hid (show ∀ W, Below G.heap.size G W → Calls Try.prog 28 #[tabV t p1 p2 c1 c2] W fun e w' => e = .returned (.bool true) ∧ Below W.heap.size W w' from fun W hb => (HTB.out W hb).mono fun e w' h => ⟨h.1.yes_of hQ, h.2⟩)
              have NX := Lib.hid (show ∀ (j : Nat) (d : Tab), j < i + 1 → l[j]? = some d → TabOK l j d from fun j d hj hd => by
                by_cases ej : j = i
                · subst ej
                  rw [HTI.out] at hd
                  cases hd
                  exact ⟨tabP_iff.2 ⟨HN.out, hQ⟩, HF.out⟩
                · exact HH.out.1 j d (by omega) hd)
              clear hQ
              go_wp2_with fail
              rw [← hG]
              clear hG
              refine wp_region_after (by kernel_rfl) (by kernel_rfl) ?_
              repeat (quiet_step ((first | (go_at_call 9; exact calls_after (N.out _)) | (go_at_call 27; exact calls_after (HPL.out _ (After.below _))) | (go_at_call 28; exact calls_after (K.out _ (After.below _))))))
              refine wpQuiet_nil ?_
              intro _ hw
              obtain ⟨⟨W1, hb1⟩, rfl⟩ := hw
              have B1 := Lib.hid hb1
              clear is d0 d1 d2 hb1
              go_wp2
              go_roundw
              case rel => exact ⟨i + 1, by go_num, hlt, NX.out, EG.out.trans (B1.out.mono (by omega))⟩
              case measure => simp [intOf] <;> omega
            · have K := Lib.hid (show ∀ W, Below G.heap.size G W → Calls Try.prog 28 #[tabV t p1 p2 c1 c2] W fun e w' => e = .returned (.bool false) ∧ Below W.heap.size W w' from fun W hb => (HTB.out W hb).mono fun e w' h => ⟨h.1.no_of hQ, h.2⟩)
              have NQ := Lib.hid hQ
              clear hQ
              go_wp2_with fail
              rw [← hG]
              clear hG
              refine wp_region_after (by kernel_rfl) (by kernel_rfl) ?_
              repeat (quiet_step ((first | (go_at_call 9; exact calls_after (N.out _)) | (go_at_call 27; exact calls_after (HPL.out _ (After.below _))) | (go_at_call 28; exact calls_after (K.out _ (After.below _))))))
              refine wpQuiet_nil ?_
              intro _ hw
              obtain ⟨⟨W1, hb1⟩, rfl⟩ := hw
              have B1 := Lib.hid hb1
              clear is d0 d1 d2 hb1
              go_wp2
              go_ret
              exact ⟨Tells.no (fun h => NQ.out (tabP_iff.1 (h.2 i t HTI.out).1).2), EG.out.trans (B1.out.mono (by omega))⟩
        · have N := Lib.hid (show ∀ W, Calls Try.prog 9 #[.string t.nm] W fun e w' => e = .returned (.bool false) ∧ Below W.heap.size W w' from fun W => (HNM.out W).mono fun e w' h => ⟨h.1.no_of hN, h.2⟩)
          have HN := Lib.hid hN
          clear hN
          go_wp2_with fail
          rw [← hG]
          clear hG
          refine wp_region_after (by kernel_rfl) (by kernel_rfl) ?_
          repeat (quiet_step ((go_at_call 9; exact calls_after (N.out _))))
          refine wpQuiet_nil ?_
          intro _ hw
          obtain ⟨⟨W1, hb1⟩, rfl⟩ := hw
          have B1 := Lib.hid hb1
          clear is d0 d1 d2 hb1
          go_wp2
          go_ret
          exact ⟨Tells.no (fun h => HN.out (h.2 i t HTI.out).1.1), EG.out.trans (B1.out.mono (by omega))⟩
      · go_wp2
        go_ret
        exact ⟨Tells.yes ⟨l8, fun j d hd => HH.out.1 j d (by have := (List.getElem?_eq_some_iff.1 hd).1; omega) hd⟩, HH.out.2⟩
  · go_enter Try.func11, Try.ntmps11
    go_wp2
    go_ret
    exact ⟨Tells.no (fun h => l8 h.1), Below.refl _ _⟩

end Go.Proofs.Ytkeekefekajfnaa
