/- The store's own checks: a kind, a row that fits its columns, columns. -/
import Derived.Test.YtkeekefekajfnaaSgB
import Derived.Test.YtkeekefekajfnaaAfter
namespace Go.Proofs.Ytkeekefekajfnaa
open Go.RowKit

theorem isKind_any (k : Int) (w : World) : Calls Try.prog 50 #[.int .i64 k] w fun e w' => e = .returned (.bool (decide (1 ≤ k ∧ k ≤ 3))) ∧ w' = w := by
  obtain ⟨b, hb⟩ : ∃ b, b = decide (1 ≤ k ∧ k ≤ 3) := ⟨_, rfl⟩
  rw [← hb]
  by_cases h1 : k = 1
  · obtain rfl : b = true := by rw [hb]; simp [h1]
    clear hb
    go_enter Try.func50, Try.ntmps50
    go_wp2
    go_ret
    exact ⟨rfl, rfl⟩
  · by_cases h2 : k = 2
    · obtain rfl : b = true := by rw [hb]; simp [h2]
      clear hb
      go_enter Try.func50, Try.ntmps50
      go_wp2
      go_ret
      exact ⟨rfl, rfl⟩
    · by_cases h3 : k = 3
      · obtain rfl : b = true := by rw [hb]; simp [h3]
        clear hb
        go_enter Try.func50, Try.ntmps50
        go_wp2
        go_ret
        exact ⟨rfl, rfl⟩
      · obtain rfl : b = false := by rw [hb]; exact decide_eq_false (by omega)
        have q1 : (k == 1) = false := by simpa using h1
        have q2 : (k == 2) = false := by simpa using h2
        have q3 : (k == 3) = false := by simpa using h3
        clear hb h1 h2 h3
        go_enter Try.func50, Try.ntmps50
        go_wp2
        go_ret
        exact ⟨rfl, rfl⟩

/-- A row has a value for each column, of its kind or none. -/
def FitsP (r : List Val) (cols : List Col) : Prop := r.length = cols.length ∧ ∀ (i : Nat) (v : Val) (c : Col), r[i]? = some v → cols[i]? = some c → v.k = 0 ∨ v.k = c.kd

set_option maxRecDepth 100000 in
set_option maxHeartbeats 2000000 in
theorem fits_any (r : List Val) (cols : List Col) (p p' : Option Addr) (c c' bl bh : Nat) (w : World) (hc : r.length ≤ c) (hc2 : c ≤ 9223372036854775807) (_ : cols.length ≤ c') (_ : c' ≤ 9223372036854775807)
    (hR : ValsA w bl bh p r) (hC : ColsA w bl bh p' cols) (hh : bh ≤ w.heap.size) :
    Calls Try.prog 43 #[.slice p r.length c, .slice p' cols.length c'] w fun e w' => Tells (FitsP r cols) e ∧ Below w.heap.size w w' := by
  have HR := Lib.hid hR
  have HC := Lib.hid hC
  clear hR hC
  by_cases hl : r.length = cols.length
  · have hq : ((r.length : Int) != (cols.length : Int)) = false := by simp [hl]
    have HL := Lib.hid hl
    clear hl
    go_enter Try.func43, Try.ntmps43
    go_wp2
    go_loopw [14] (fun vi wr => ∃ i : Nat, vi = .int .i64 i ∧ i ≤ r.length ∧ Hid ((∀ (j : Nat) (v : Val) (d : Col), j < i → r[j]? = some v → cols[j]? = some d → v.k = 0 ∨ v.k = d.kd) ∧ Below w.heap.size w wr)) (fun vi _ => r.length - (intOf vi).toNat)
    case atStart => exact ⟨0, rfl, Nat.zero_le _, fun j _ _ hj => absurd hj (Nat.not_lt_zero _), Below.refl _ _⟩
    case round =>
      obtain ⟨i, rfl, hi, HH⟩ := hrel
      obtain ⟨V, hV⟩ : ∃ V, V = wr := ⟨_, rfl⟩
      subst hV
      have hsV : w.heap.size ≤ V.heap.size := HH.out.2.size
      by_cases hlt : i < r.length
      · have hlt2 : i < cols.length := by have := HL.out; omega
        obtain ⟨g, off, rfl, hg1, hg2, hcA⟩ := (HR.out.same (Same.of HH.out.2 hh)) i hlt
        obtain ⟨g', off', rfl, hg3, hg4, hcB⟩ := (HC.out.same (Same.of HH.out.2 hh)) i hlt2
        obtain ⟨x, hx⟩ : ∃ x, x = r[i] := ⟨_, rfl⟩
        obtain ⟨d, hd⟩ : ∃ d, d = cols[i] := ⟨_, rfl⟩
        have hxi : r[i]? = some x := by rw [hx]; exact List.getElem?_eq_getElem hlt
        have hdi : cols[i]? = some d := by rw [hd]; exact List.getElem?_eq_getElem hlt2
        have HX := Lib.hid (And.intro hxi hdi)
        obtain ⟨a0, a1, a2⟩ := hcA i x hxi
        obtain ⟨⟨b0, b1⟩, b2⟩ := hcB i d hdi
        have d1 : (V.alloc (.cells #[.int .i64 x.k, .int .i64 x.n, .string x.s] 37)).cell? ⟨g', off' + i * 2 + 1, none⟩ = some (.int .i64 d.kd) := ((ext_alloc (ext_refl V) _).cell (p := ⟨g', _, none⟩) (show g' < V.heap.size by omega)).trans b1
        have hE : Below w.heap.size w (V.alloc (.cells #[.int .i64 x.k, .int .i64 x.n, .string x.s] 37)) := ext_trans HH.out.2 (ext_alloc (ext_refl V) _)
        have HE := Lib.hid hE
        clear hx hd hxi hdi hcA hcB b0 b2 hE
        have NX := Lib.hid (show (x.k = 0 ∨ x.k = d.kd) → ∀ (j : Nat) (v : Val) (e : Col), j < i + 1 → r[j]? = some v → cols[j]? = some e → v.k = 0 ∨ v.k = e.kd from fun h j v e hj hv he => by
          by_cases ej : j = i
          · subst ej
            rw [HX.out.1] at hv
            rw [HX.out.2] at he
            cases hv
            cases he
            exact h
          · exact HH.out.1 j v e (by omega) hv he)
        by_cases k0 : x.k = 0
        · have q1 : (x.k != 0) = false := by simpa using k0
          have K0 := Lib.hid (NX.out (.inl k0))
          clear k0
          go_wp2_with fail
          go_big_quiet (fail)
          go_wp2
          go_roundw
          case rel => exact ⟨i + 1, by go_num, hlt, K0.out, ext_drewN HE.out nq⟩
          case measure => simp [intOf] <;> omega
        · have q1 : (x.k != 0) = true := by simpa using k0
          have K0 := Lib.hid k0
          clear k0
          by_cases k1 : x.k = d.kd
          · have q2 : (x.k != d.kd) = false := by simpa using k1
            have K1 := Lib.hid (NX.out (.inr k1))
            clear k1
            go_wp2_with fail
            go_big_quiet (fail)
            go_wp2
            go_roundw
            case rel => exact ⟨i + 1, by go_num, hlt, K1.out, ext_drewN HE.out nq⟩
            case measure => simp [intOf] <;> omega
          · have q2 : (x.k != d.kd) = true := by simpa using k1
            have K1 := Lib.hid k1
            clear k1
            go_wp2_with fail
            go_big_quiet (fail)
            go_wp2
            go_ret
            exact ⟨Tells.no (fun h => by
              rcases h.2 i x d HX.out.1 HX.out.2 with h | h
              · exact K0.out h
              · exact K1.out h), ext_drewN HE.out nq⟩
      · go_wp2
        go_ret
        exact ⟨Tells.yes ⟨HL.out, fun j v d hv hd => HH.out.1 j v d (by have := (List.getElem?_eq_some_iff.1 hv).1; omega) hv hd⟩, HH.out.2⟩
  · have hq : ((r.length : Int) != (cols.length : Int)) = true := by simp; omega
    have HL := Lib.hid hl
    clear hl
    go_enter Try.func43, Try.ntmps43
    go_wp2
    go_ret
    exact ⟨Tells.no (fun h => HL.out h.1), Below.refl _ _⟩

/-- Columns that a table may have. -/
def ColsQ (cols : List Col) : Prop := (1 ≤ cols.length ∧ cols.length ≤ 6) ∧ ∀ (i : Nat) (c : Col), cols[i]? = some c → ColOK cols i c

set_option maxRecDepth 100000 in
set_option maxHeartbeats 4000000 in
theorem rightColumns_any (cols : List Col) (p : Option Addr) (c bl bh : Nat) (w : World) (hc : cols.length ≤ c) (hc2 : c ≤ 9223372036854775807) (hC : ColsA w bl bh p cols) (hh : bh ≤ w.heap.size) :
    Calls Try.prog 41 #[.slice p cols.length c] w fun e w' => Tells (ColsQ cols) e ∧ Below w.heap.size w w' := by
  have HC := Lib.hid hC
  clear hC
  by_cases l1 : 1 ≤ cols.length
  · by_cases l6 : cols.length ≤ 6
    · go_enter Try.func41, Try.ntmps41
      go_wp2
      go_loopw [15] (fun vi wr => ∃ i : Nat, vi = .int .i64 i ∧ i ≤ cols.length ∧ Hid ((∀ (j : Nat) (d : Col), j < i → cols[j]? = some d → ColOK cols j d) ∧ Below w.heap.size w wr)) (fun vi _ => cols.length - (intOf vi).toNat)
      case atStart => exact ⟨0, rfl, Nat.zero_le _, fun j _ hj => absurd hj (Nat.not_lt_zero _), Below.refl _ _⟩
      case round =>
        obtain ⟨i, rfl, hi, HH⟩ := hrel
        obtain ⟨V, hV⟩ : ∃ V, V = wr := ⟨_, rfl⟩
        subst hV
        have hsV : w.heap.size ≤ V.heap.size := HH.out.2.size
        by_cases hlt : i < cols.length
        · obtain ⟨g, off, rfl, hg1, hg2, hcA⟩ := (HC.out.same (Same.of HH.out.2 hh)) i hlt
          obtain ⟨x, hx⟩ : ∃ x, x = cols[i] := ⟨_, rfl⟩
          have hxi : cols[i]? = some x := by rw [hx]; exact List.getElem?_eq_getElem hlt
          have HX := Lib.hid hxi
          obtain ⟨⟨a0, a1⟩, a2⟩ := hcA i x hxi
          obtain ⟨G, hG⟩ : ∃ G, G = V.alloc (.cells #[.string x.nm, .int .i64 x.kd] 39) := ⟨_, rfl⟩
          have k0 : G.cell? ⟨V.heap.size, 0, none⟩ = some (.string x.nm) := by rw [hG, Lib.cell_of_heap (heap_alloc_new V _)]; rfl
          have k1 : G.cell? ⟨V.heap.size, 1, none⟩ = some (.int .i64 x.kd) := by rw [hG, Lib.cell_of_heap (heap_alloc_new V _)]; rfl
          have hB : Below V.heap.size V G := by rw [hG]; exact ext_alloc (ext_refl V) _
          have hsG : V.heap.size < G.heap.size := by rw [hG]; simp
          have EG := Lib.hid (show Below w.heap.size w G from ext_trans HH.out.2 hB)
          have c0 := fun (z : After G) => (z.cell V.heap.size 0 hsG).trans k0
          have c1 := fun (z : After G) => (z.cell V.heap.size 1 hsG).trans k1
          have HCOL := Lib.hid (show ∀ W, Below G.heap.size G W → Calls Try.prog 49 #[.slice (some ⟨g, off, none⟩) i c, .string x.nm] W fun e w' => e = .returned (.bool (decide (0 ≤ findC x.nm (cols.take i)))) ∧ Below W.heap.size W w' from fun W hb =>
            hasCol_any (cols.take i) x.nm _ i c bl bh W (by rw [List.length_take]; omega) (by omega) hc2 ((HC.out.same (Same.of (EG.out.trans (hb.mono EG.out.size)) hh)).take i) (by have := hb.size; omega))
          have HNM := Lib.hid (show ∀ W, Calls Try.prog 9 #[.string x.nm] W fun e w' => Tells (NameP x.nm) e ∧ Below W.heap.size W w' from fun W => (sname_any x.nm W a2).mono fun e w' h => ⟨h.1, by rw [h.2]; exact Below.refl _ _⟩)
          have HKD := Lib.hid (show ∀ W, Calls Try.prog 50 #[.int .i64 x.kd] W fun e w' => e = .returned (.bool (decide (1 ≤ x.kd ∧ x.kd ≤ 3))) ∧ Below W.heap.size W w' from fun W => (isKind_any x.kd W).mono fun e w' h => ⟨h.1, by rw [h.2]; exact Below.refl _ _⟩)
          have hic : i ≤ c := by omega
          have is := After.some G
          clear hx hxi hcA a2 k0 k1 hB
          by_cases hN : NameP x.nm
          · have N := Lib.hid (show ∀ W, Calls Try.prog 9 #[.string x.nm] W fun e w' => e = .returned (.bool true) ∧ Below W.heap.size W w' from fun W => (HNM.out W).mono fun e w' h => ⟨h.1.yes_of hN, h.2⟩)
            have HN := Lib.hid hN
            clear hN
            by_cases hF : 0 ≤ findC x.nm (cols.take i)
            · have F := Lib.hid (show ∀ W, Below G.heap.size G W → Calls Try.prog 49 #[.slice (some ⟨g, off, none⟩) i c, .string x.nm] W fun e w' => e = .returned (.bool true) ∧ Below W.heap.size W w' from fun W hb => by
                have := HCOL.out W hb
                rwa [decide_eq_true hF] at this)
              have HF := Lib.hid hF
              clear hF
              go_wp2_with fail
              rw [← hG]
              clear hG
              refine wp_region_after (by kernel_rfl) (by kernel_rfl) ?_
              repeat (quiet_step ((first | (go_at_call 9; exact calls_after (N.out _)) | (go_at_call 49; exact calls_after (F.out _ (After.below _))) | (go_at_call 50; exact calls_after (HKD.out _)))))
              refine wpQuiet_nil ?_
              intro _ hw
              obtain ⟨⟨W1, hb1⟩, rfl⟩ := hw
              have B1 := Lib.hid hb1
              clear is c0 c1 hb1
              go_wp2
              go_ret
              exact ⟨Tells.no (fun h => by
                obtain ⟨j, u, hj, hu, e⟩ := findC_take HF.out
                exact (h.2 i x HX.out).2.2 j u hj hu e), EG.out.trans (B1.out.mono (by omega))⟩
            · have F := Lib.hid (show ∀ W, Below G.heap.size G W → Calls Try.prog 49 #[.slice (some ⟨g, off, none⟩) i c, .string x.nm] W fun e w' => e = .returned (.bool false) ∧ Below W.heap.size W w' from fun W hb => by
                have := HCOL.out W hb
                rwa [decide_eq_false hF] at this)
              have HF := Lib.hid (show ∀ (k : Nat) (d : Col), k < i → cols[k]? = some d → d.nm.toList ≠ x.nm.toList from fun k d hk hd e => hF (findC_some x.nm (cols.take i) k d (by rw [List.getElem?_take, if_pos hk]; exact hd) e))
              clear hF
              by_cases hK : 1 ≤ x.kd ∧ x.kd ≤ 3
              · have K := Lib.hid (show ∀ W, Calls Try.prog 50 #[.int .i64 x.kd] W fun e w' => e = .returned (.bool true) ∧ Below W.heap.size W w' from fun W => by
                  have := HKD.out W
                  rwa [decide_eq_true hK] at this)
                have NX := Lib.hid (show ∀ (j : Nat) (d : Col), j < i + 1 → cols[j]? = some d → ColOK cols j d from fun j d hj hd => by
                  by_cases ej : j = i
                  · subst ej
                    rw [HX.out] at hd
                    cases hd
                    exact ⟨HN.out, hK, HF.out⟩
                  · exact HH.out.1 j d (by omega) hd)
                clear hK
                go_wp2_with fail
                rw [← hG]
                clear hG
                refine wp_region_after (by kernel_rfl) (by kernel_rfl) ?_
                repeat (quiet_step ((first | (go_at_call 9; exact calls_after (N.out _)) | (go_at_call 49; exact calls_after (F.out _ (After.below _))) | (go_at_call 50; exact calls_after (K.out _)))))
                refine wpQuiet_nil ?_
                intro _ hw
                obtain ⟨⟨W1, hb1⟩, rfl⟩ := hw
                have B1 := Lib.hid hb1
                clear is c0 c1 hb1
                go_wp2
                go_roundw
                case rel => exact ⟨i + 1, by go_num, hlt, NX.out, EG.out.trans (B1.out.mono (by omega))⟩
                case measure => simp [intOf] <;> omega
              · have K := Lib.hid (show ∀ W, Calls Try.prog 50 #[.int .i64 x.kd] W fun e w' => e = .returned (.bool false) ∧ Below W.heap.size W w' from fun W => by
                  have := HKD.out W
                  rwa [decide_eq_false hK] at this)
                have NK := Lib.hid hK
                clear hK
                go_wp2_with fail
                rw [← hG]
                clear hG
                refine wp_region_after (by kernel_rfl) (by kernel_rfl) ?_
                repeat (quiet_step ((first | (go_at_call 9; exact calls_after (N.out _)) | (go_at_call 49; exact calls_after (F.out _ (After.below _))) | (go_at_call 50; exact calls_after (K.out _)))))
                refine wpQuiet_nil ?_
                intro _ hw
                obtain ⟨⟨W1, hb1⟩, rfl⟩ := hw
                have B1 := Lib.hid hb1
                clear is c0 c1 hb1
                go_wp2
                go_ret
                exact ⟨Tells.no (fun h => NK.out (h.2 i x HX.out).2.1), EG.out.trans (B1.out.mono (by omega))⟩
          · have N := Lib.hid (show ∀ W, Calls Try.prog 9 #[.string x.nm] W fun e w' => e = .returned (.bool false) ∧ Below W.heap.size W w' from fun W => (HNM.out W).mono fun e w' h => ⟨h.1.no_of hN, h.2⟩)
            have HN := Lib.hid hN
            clear hN
            go_wp2_with fail
            rw [← hG]
            clear hG
            refine wp_region_after (by kernel_rfl) (by kernel_rfl) ?_
            repeat (quiet_step ((first | (go_at_call 9; exact calls_after (N.out _)) | (go_at_call 49; exact calls_after (HCOL.out _ (After.below _))) | (go_at_call 50; exact calls_after (HKD.out _)))))
            refine wpQuiet_nil ?_
            intro _ hw
            obtain ⟨⟨W1, hb1⟩, rfl⟩ := hw
            have B1 := Lib.hid hb1
            clear is c0 c1 hb1
            go_wp2
            go_ret
            exact ⟨Tells.no (fun h => HN.out (h.2 i x HX.out).1), EG.out.trans (B1.out.mono (by omega))⟩
        · go_wp2
          go_ret
          exact ⟨Tells.yes ⟨⟨l1, l6⟩, fun j d hd => HH.out.1 j d (by have := (List.getElem?_eq_some_iff.1 hd).1; omega) hd⟩, HH.out.2⟩
    · go_enter Try.func41, Try.ntmps41
      go_wp2
      go_ret
      exact ⟨Tells.no (fun h => l6 h.1.2), Below.refl _ _⟩
  · go_enter Try.func41, Try.ntmps41
    go_wp2
    go_ret
    exact ⟨Tells.no (fun h => l1 h.1.1), Below.refl _ _⟩

end Go.Proofs.Ytkeekefekajfnaa
