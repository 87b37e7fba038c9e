/- The hash table: a map from values to lists of places; what puts a place in; what tells the places of a value. -/
import Derived.Test.YtflbeccfdbjbhaaIxF
import Derived.Test.YtflbeccfdbjbhaaFrame
import Derived.Test.YtflbeccfdbjbhaaIxQ
import Derived.Maps.OwnRows
import Derived.Maps.GroupsBeside
import Derived.Maps.OwnSet
import Derived.DeepKeys4
import Derived.Deep.AppendLies
namespace Go.Proofs.Ytflbeccfdbjbhaa
open Go.RowKit Go.Maps Go.ChangeShapes
set_option maxRecDepth 100000

/-- A value that a program can hold. -/
structure FitV (v : Val) : Prop where
  k : inR v.k = true
  n : inR v.n = true
  s : v.s.size ≤ 9223372036854775807

theorem Try.rowVal : (24 : TypeId) < Try.prog.types.size := of_decide_eq_true (by kernel_rfl)
theorem Try.wideVal : (match Try.prog.underlying 24 with | some (.array _ _) | some (.struct _) => true | _ => false) = true := by kernel_rfl
theorem Try.lawVal : Keyed Try.prog 24 := Keyed.of_law (deep_law_laid Try.laidOut (m := 2) (by omega) Try.rowVal (by kernel_rfl) Try.wideVal)
theorem Try.zeroInts (w : World) : (zeroValue 31).run Try.prog w = .ok (.slice none 0 0) w := by kernel_rfl

/-- The key under which the map holds a value. -/
def vkey (v : Val) : Lit := .string (keyBytes [.int .i64 v.k, .int .i64 v.n, .string v.s.data.toList])
theorem Try.keyTyVal : Try.prog.keyType 24 = true := by kernel_rfl
theorem FitV.key {v : Val} (h : FitV v) : keyOf Try.prog 24 v.v = some (vkey v) := by
  obtain ⟨k, n, s⟩ := v
  obtain ⟨h1, h2, h3⟩ := h
  have w1 : (Lit.int .i64 k).wf = true := by simpa [inR, Lit.wf, IntKind.min, IntKind.signed, IntKind.bits] using h1
  have w2 : (Lit.int .i64 n).wf = true := by simpa [inR, Lit.wf, IntKind.min, IntKind.signed, IntKind.bits] using h2
  have h4 : s.size ≤ 9223372036854775807 := h3
  have w3 : s.size ≤ maxLen := by unfold maxLen; omega
  have hf : (Value.agg #[.int .i64 k, .int .i64 n, .string s]).formed Try.prog 24 = true := by simp [Value.formed, Try.underlying24, Try.cellsVal]
  have c1 : Try.prog.cellsOf 3 = 1 := by kernel_rfl
  have c2 : Try.prog.cellsOf 9 = 1 := by kernel_rfl
  obtain ⟨N, hN⟩ : ∃ N, Try.prog.types.size = N + 1 := ⟨Try.prog.types.size - 1, (Nat.sub_add_cancel (Nat.lt_of_le_of_lt (Nat.zero_le _) Try.rowVal)).symm⟩
  unfold keyOf
  simp only [Try.underlying24, Try.keyTyVal, hf, Bool.and_self, if_true, hN]
  simp [Program.keyLits, Try.underlying24, Try.underlying3, Try.underlying9, Try.cellsVal, c1, c2, w1, w2, w3, Value.cells, vkey]
theorem vkey_inj {u v : Val} (hu : FitV u) (hv : FitV v) (h : vkey u = vkey v) : u = v := by
  have h1 := hu.key
  rw [h] at h1
  have := Try.lawVal.inj h1 hv.key
  obtain ⟨a, b, c⟩ := u
  obtain ⟨d, e, f⟩ := v
  simpa using this

/-- How a list of numbers reads in the map. -/
def datum (zs : List Int) : DataW Unit := if zs = [] then .nil else .slice (lits .i64 zs) []
theorem datum_own {w : World} {base : Nat} {v : Value} {zs zs' : List Int} (h : w.ownsInts base 3 .i64 v zs) (e : datum zs' = rowDatum .i64 v zs) : zs = zs' := by
  unfold datum at e
  rcases h.datum (H := Unit) with ⟨e1, e2⟩ | e1
  · rw [e1] at e
    split at e
    · rename_i h0; rw [e2, h0]
    · cases e
  · rw [e1] at e
    split at e
    · cases e
    · simp only [DataW.slice.injEq, and_true] at e
      unfold lits at e
      exact ((List.map_inj_right (fun a b hab => by simpa using hab)).1 e).symm
theorem datum_new {w : World} {base : Nat} {v : Value} {zs : List Int} {i : Int} (h : w.ownsInts base 3 .i64 v (zs ++ [i])) : rowDatum (H := Unit) .i64 v (zs ++ [i]) = datum (zs ++ [i]) := by
  unfold datum
  rw [if_neg (by simp)]
  exact h.datum_pos (by simp)

/-- What the map reads as: under each value the list of its places. -/
structure GD (D : DataW Unit) (l : List Val) : Prop where
  at_ : ∀ v, FitV v → D.atKey (vkey v) .nil = datum (toInts (eqP l v))
  has : ∀ v, FitV v → Maps.has D (vkey v) = decide (eqP l v ≠ [])
  size : Maps.size D = distP l
theorem GD.none : GD (.map []) [] := ⟨fun v _ => by rw [eqP_zero]; rfl, fun v _ => by rw [eqP_zero]; rfl, rfl⟩
theorem GD.null {D : DataW Unit} {l : List Val} {i : Nat} {x : Val} (h : GD D (l.take i)) (hx : l[i]? = some x) (hk : x.k = 0) : GD D (l.take (i + 1)) := by
  have e : ∀ v, eqP (l.take (i + 1)) v = eqP (l.take i) v := fun v => by
    rw [eqP_step hx v, if_neg, List.append_nil]
    rintro ⟨h1, h2⟩
    rw [cmp_zero h2] at hk
    exact h1 hk
  refine ⟨fun v hv => by rw [e]; exact h.at_ v hv, fun v hv => by rw [e]; exact h.has v hv, ?_⟩
  rw [distP_step hx, if_neg (fun h => h.1 hk), Nat.add_zero]
  exact h.size
theorem GD.put {D : DataW Unit} {l : List Val} {i : Nat} {x : Val} (h : GD D (l.take i)) (hD : Tidy D) (hx : l[i]? = some x) (hf : FitV x) (hk : x.k ≠ 0) : GD (D.put (vkey x) (datum (toInts (eqP (l.take i) x) ++ [(i : Int)]))) (l.take (i + 1)) := by
  have e : eqP (l.take (i + 1)) x = eqP (l.take i) x ++ [i] := by rw [eqP_step hx x, if_pos ⟨hk, cmp_self x⟩]
  have e' : ∀ v, v ≠ x → eqP (l.take (i + 1)) v = eqP (l.take i) v := fun v hv => by
    rw [eqP_step hx v, if_neg, List.append_nil]
    rintro ⟨_, h2⟩
    exact hv (cmp_zero h2).symm
  have hK : WideAt.IsKeyLit (vkey x) := Try.lawVal.key hf.key
  refine ⟨fun v hv => ?_, fun v hv => ?_, ?_⟩
  · by_cases hvx : v = x
    · subst hvx
      rw [atKey_put_same hD.isMap hK, e]
      simp [toInts]
    · rw [atKey_put_other (fun he => hvx (vkey_inj hv hf he)), e' v hvx]
      exact h.at_ v hv
  · by_cases hvx : v = x
    · subst hvx
      rw [has_put_same hD.isMap hK, e]
      simp
    · rw [has_put_other (fun he => hvx (vkey_inj hv hf he)), e' v hvx]
      exact h.has v hv
  · rw [size_put hD, h.has x hf, distP_step hx, h.size]
    by_cases h0 : eqP (l.take i) x = []
    · rw [if_neg (by simp [h0]), if_pos ⟨hk, h0⟩]
    · rw [if_pos (by simp [h0]), if_neg (fun h => h0 h.2), Nat.add_zero]

theorem World.ownsGroups.drew' {w : World} {k : TypeId} {base e : Nat} {b n : Nat} {D : DataW Unit} (h : w.ownsGroups Try.prog k base e .i64 b n D) : w.drew.ownsGroups Try.prog k base e .i64 b n D :=
  h

set_option maxHeartbeats 4000000 in
theorem add_any (w : World) (m n base i : Nat) (D : DataW Unit) (v : Val) (zs : List Int) (hv : FitV v) (hown : w.ownsGroups Try.prog 24 base 3 .i64 m n D) (hat : D.atKey (vkey v) .nil = datum zs) (hn : n ≤ 1000000) (hi : i ≤ 1000000) (hbase : base ≤ w.heap.size) :
    Calls Try.prog 17 #[.map (some m), v.v, .int .i64 (i : Int)] w fun e w' => e = .returned (.tuple #[]) ∧ w'.ownsGroups Try.prog 24 base 3 .i64 m (n + 1) (D.put (vkey v) (datum (zs ++ [(i : Int)]))) ∧ Out (fun k => k = m ∨ base ≤ k) w w' := by
  obtain ⟨vk, vn, vs⟩ := v
  obtain ⟨i0, hi0, hz0, hz1, hz2⟩ := info_parts Try.infoIntX
  obtain ⟨W0, hW0⟩ : ∃ W0, W0 = w.alloc (.cells #[.int .i64 vk, .int .i64 vn, .string vs] 24) := ⟨_, rfl⟩
  have hz : w.heap.size < W0.heap.size := by rw [hW0]; simp
  have hzb : base ≤ W0.heap.size := by omega
  have b0 : W0.cell? ⟨w.heap.size, 0, none⟩ = some (.int .i64 vk) := by rw [hW0]; simp [go_sem]
  have b1 : W0.cell? ⟨w.heap.size, 1, none⟩ = some (.int .i64 vn) := by rw [hW0]; simp [go_sem]
  have b2 : W0.cell? ⟨w.heap.size, 2, none⟩ = some (.string vs) := by rw [hW0]; simp [go_sem]
  have noRow : ∀ (es : Array MapEntry) (clock : Nat), w.heap[m]? = some (.map es clock) → ∀ x ∈ es.toList, x.val.ownBlock = none ∨ x.val.ownBlock ≠ none := fun _ _ _ x _ => by cases x.val.ownBlock <;> simp
  have G0 : W0.ownsGroups Try.prog 24 base 3 .i64 m n D := by rw [hW0]; exact hown.kept (World.grownBy_alloc _ _ none) (by simp) noRow
  have GA : W0.drew.ownsGroups Try.prog 24 base 3 .i64 m n D := G0
  have GB : (W0.drew.alloc (.cells #[.int .i64 (i : Int)] 3)).ownsGroups Try.prog 24 base 3 .i64 m n D := GA.kept (World.grownBy_alloc _ _ none) (by simp) (fun _ _ _ x _ => by cases x.val.ownBlock <;> simp)
  obtain ⟨vA, zA, rA, atA, oA, lA, backA⟩ := GA.at Try.lawVal Try.underlying43 (Try.zeroInts _) (by unfold maxLen; omega) hv.key
  obtain ⟨vB, zB, rB, atB, oB, lB, backB⟩ := GB.at Try.lawVal Try.underlying43 (Try.zeroInts _) (by unfold maxLen; omega) hv.key
  obtain rfl : zA = zs := datum_own oA (hat.symm.trans atA)
  obtain rfl : zB = zA := datum_own oB (hat.symm.trans atB)
  have oA' : (W0.drew.alloc (.cells #[.int .i64 (i : Int)] 3)).ownsRow base 3 1 vA zB.length (zB.map (Value.int .i64)) := oA.1.alloc _
  have CN : ∀ j u, [Value.int .i64 (i : Int)][j]? = some u → (W0.drew.alloc (.cells #[.int .i64 (i : Int)] 3)).cell? ((⟨W0.heap.size, 0, none⟩ : Addr).add j) = some u := cell_one_new W0.drew _ _
  have wf : (Lit.int .i64 (i : Int)).wf = true := WalkArith.wf_i64 (by omega)
  have SA := Lib.hid (show W0.drew.cell? ⟨w.heap.size, 0, none⟩ = some (.int .i64 vk) ∧ W0.drew.cell? ⟨w.heap.size, 1, none⟩ = some (.int .i64 vn) ∧ W0.drew.cell? ⟨w.heap.size, 2, none⟩ = some (.string vs) from ⟨b0, b1, b2⟩)
  have hB1 : Below W0.heap.size W0 (W0.drew.alloc (.cells #[.int .i64 (i : Int)] 3)) := by (repeat (first | exact ext_refl _ | assumption | (refine ext_alloc ?_ _) | (refine ext_drewN ?_ _) | refine ext_drew ?_ | (refine ext_set (by first | (simp; done) | (simp; omega)) _ ?_) | (refine ext_trans ?_ (by assumption))))
  have SB := Lib.hid (show (W0.drew.alloc (.cells #[.int .i64 (i : Int)] 3)).cell? ⟨w.heap.size, 0, none⟩ = some (.int .i64 vk) ∧ (W0.drew.alloc (.cells #[.int .i64 (i : Int)] 3)).cell? ⟨w.heap.size, 1, none⟩ = some (.int .i64 vn) ∧ (W0.drew.alloc (.cells #[.int .i64 (i : Int)] 3)).cell? ⟨w.heap.size, 2, none⟩ = some (.string vs) from ⟨(hB1.cell (p := ⟨w.heap.size, 0, none⟩) hz).trans b0, (hB1.cell (p := ⟨w.heap.size, 1, none⟩) hz).trans b1, (hB1.cell (p := ⟨w.heap.size, 2, none⟩) hz).trans b2⟩)
  have HWF := Lib.hid wf
  have hB1' := Lib.hid hB1
  have tyB : ∀ (X : World) (u : Value) (zs : List Int), Below W0.heap.size W0 X → X.ownsInts base 3 .i64 u zs → some w.heap.size ≠ u.ownBlock := fun X u zs hX ho e => by
    have hh := ho.1.2
    rcases hh with ⟨rfl, _⟩ | ⟨g, cap, cur, rfl, _, hg, _⟩
    · cases e
    · have eg : w.heap.size = g := by simpa [Value.ownBlock] using e
      subst eg
      rw [hX.block _ hz, hW0, heap_alloc_new] at hg
      simp at hg
  have outB : ∀ (X w1 w2 : World) (row : Option Nat), Below W0.heap.size W0 X → X.grownBy w1 row → (∀ k, row = some k → base ≤ k) → w1.grownBy w2 (some m) → Out (fun k => k = m ∨ base ≤ k) w w2 := fun X w1 w2 row hX h1 h2 h3 =>
    (((Out.of (S := fun k => k = m ∨ base ≤ k) (show Below w.heap.size w W0 from by rw [hW0]; (repeat (first | exact ext_refl _ | assumption | (refine ext_alloc ?_ _) | (refine ext_drewN ?_ _) | refine ext_drew ?_ | (refine ext_set (by first | (simp; done) | (simp; omega)) _ ?_) | (refine ext_trans ?_ (by assumption)))))).trans (Out.of hX)).trans (Out.grown h1 (fun k hk => .inr (h2 k hk)))).trans (Out.grown h3 (fun k hk => .inl (by simpa using hk.symm)))
  have HA0 : Below W0.heap.size W0 W0.drew := by (repeat (first | exact ext_refl _ | assumption | (refine ext_alloc ?_ _) | (refine ext_drewN ?_ _) | refine ext_drew ?_ | (refine ext_set (by first | (simp; done) | (simp; omega)) _ ?_) | (refine ext_trans ?_ (by assumption))))
  have hmw : m < w.heap.size := by obtain ⟨es, clock, h, _⟩ := hown; exact (Array.getElem?_eq_some_iff.1 h).1
  have twoS : ∀ (w1 w2 : World), w1.grownBy w2 (some m) → W0.heap.size ≤ w1.heap.size → (w1.cell? ⟨w.heap.size, 0, none⟩ = some (.int .i64 vk) ∧ w1.cell? ⟨w.heap.size, 1, none⟩ = some (.int .i64 vn) ∧ w1.cell? ⟨w.heap.size, 2, none⟩ = some (.string vs)) →
      (w1.cell? ⟨w.heap.size, 0, none⟩ = some (.int .i64 vk) ∧ w1.cell? ⟨w.heap.size, 1, none⟩ = some (.int .i64 vn) ∧ w1.cell? ⟨w.heap.size, 2, none⟩ = some (.string vs)) ∧ (w2.cell? ⟨w.heap.size, 0, none⟩ = some (.int .i64 vk) ∧ w2.cell? ⟨w.heap.size, 1, none⟩ = some (.int .i64 vn) ∧ w2.cell? ⟨w.heap.size, 2, none⟩ = some (.string vs)) := fun w1 w2 hg hs h => by
    have hlt : w.heap.size < w1.heap.size := by omega
    have ne : some w.heap.size ≠ some m := fun e => by have : w.heap.size = m := by simpa using e
                                                       omega
    exact ⟨h, (hg.cell_far ⟨w.heap.size, 0, none⟩ hlt ne).trans h.1, (hg.cell_far ⟨w.heap.size, 1, none⟩ hlt ne).trans h.2.1, (hg.cell_far ⟨w.heap.size, 2, none⟩ hlt ne).trans h.2.2⟩
  have KA : ∀ g cap w1, w1.ownsRow base 3 1 (.slice (some ⟨g, 0, none⟩) (zB.length + 1) cap) (zB.length + 1) (zB.map (Value.int .i64) ++ [.int .i64 (i : Int)]) → (W0.drew.alloc (.cells #[.int .i64 (i : Int)] 3)).grownBy w1 vA.ownBlock → (vA.ownBlock = some g ∨ g = W0.heap.size + 1) → ∃ w2, (Instr.mapUpdate 43 (.map (some m)) (.agg #[.int .i64 vk, .int .i64 vn, .string vs]) (.slice (some ⟨g, 0, none⟩) (zB.length + 1) cap)).run Try.prog w1 = .ok () w2 ∧
      (w2.ownsGroups Try.prog 24 base 3 .i64 m (n + 1) (D.put (vkey ⟨vk, vn, vs⟩) (datum (zB ++ [(i : Int)]))) ∧ Out (fun k => k = m ∨ base ≤ k) w w2) ∧ ((w1.cell? ⟨w.heap.size, 0, none⟩ = some (.int .i64 vk) ∧ w1.cell? ⟨w.heap.size, 1, none⟩ = some (.int .i64 vn) ∧ w1.cell? ⟨w.heap.size, 2, none⟩ = some (.string vs)) ∧ (w2.cell? ⟨w.heap.size, 0, none⟩ = some (.int .i64 vk) ∧ w2.cell? ⟨w.heap.size, 1, none⟩ = some (.int .i64 vn) ∧ w2.cell? ⟨w.heap.size, 2, none⟩ = some (.string vs))) := fun g cap w1 ho hg hl => by
    have gA := (World.grownBy_alloc W0.drew (.cells #[.int .i64 (i : Int)] 3) vA.ownBlock).trans hg
    have oN := oA.appended ho wf
    obtain ⟨w2, hrun, hown2, hg2⟩ := backA w1 _ _ gA oN (by simp; omega) (hl.imp (fun e => by rw [e]; rfl) (fun e => ⟨g, rfl, by rw [e]; simp⟩))
    rw [datum_new oN] at hown2
    have ne := tyB _ _ _ HA0 oA
    exact ⟨w2, hrun, ⟨hown2, outB _ _ _ _ HA0 gA (fun k hk => (oA.1.lt k hk).1) hg2⟩, twoS _ _ hg2 gA.size ⟨(gA.cell_far ⟨w.heap.size, 0, none⟩ hz ne).trans b0, (gA.cell_far ⟨w.heap.size, 1, none⟩ hz ne).trans b1, (gA.cell_far ⟨w.heap.size, 2, none⟩ hz ne).trans b2⟩⟩
  have KB : ∀ g cap w1, w1.ownsRow base 3 1 (.slice (some ⟨g, 0, none⟩) (zB.length + 1) cap) (zB.length + 1) (zB.map (Value.int .i64) ++ [.int .i64 (i : Int)]) → (W0.drew.alloc (.cells #[.int .i64 (i : Int)] 3)).grownBy w1 vB.ownBlock → (vB.ownBlock = some g ∨ g = W0.heap.size + 1) → ∃ w2, (Instr.mapUpdate 43 (.map (some m)) (.agg #[.int .i64 vk, .int .i64 vn, .string vs]) (.slice (some ⟨g, 0, none⟩) (zB.length + 1) cap)).run Try.prog w1 = .ok () w2 ∧
      (w2.ownsGroups Try.prog 24 base 3 .i64 m (n + 1) (D.put (vkey ⟨vk, vn, vs⟩) (datum (zB ++ [(i : Int)]))) ∧ Out (fun k => k = m ∨ base ≤ k) w w2) ∧ ((w1.cell? ⟨w.heap.size, 0, none⟩ = some (.int .i64 vk) ∧ w1.cell? ⟨w.heap.size, 1, none⟩ = some (.int .i64 vn) ∧ w1.cell? ⟨w.heap.size, 2, none⟩ = some (.string vs)) ∧ (w2.cell? ⟨w.heap.size, 0, none⟩ = some (.int .i64 vk) ∧ w2.cell? ⟨w.heap.size, 1, none⟩ = some (.int .i64 vn) ∧ w2.cell? ⟨w.heap.size, 2, none⟩ = some (.string vs))) := fun g cap w1 ho hg hl => by
    have oN := oB.appended ho wf
    obtain ⟨w2, hrun, hown2, hg2⟩ := backB w1 _ _ hg oN (by simp; omega) (hl.imp (fun e => by rw [e]; rfl) (fun e => ⟨g, rfl, by rw [e]; simp⟩))
    rw [datum_new oN] at hown2
    have ne := tyB _ _ _ hB1 oB
    have hzB : w.heap.size < (W0.drew.alloc (.cells #[.int .i64 (i : Int)] 3)).heap.size := by simp; omega
    exact ⟨w2, hrun, ⟨hown2, outB _ _ _ _ hB1 hg (fun k hk => (oB.1.lt k hk).1) hg2⟩, twoS _ _ hg2 (Nat.le_trans hB1.size hg.size) ⟨(hg.cell_far ⟨w.heap.size, 0, none⟩ hzB ne).trans SB.out.1, (hg.cell_far ⟨w.heap.size, 1, none⟩ hzB ne).trans SB.out.2.1, (hg.cell_far ⟨w.heap.size, 2, none⟩ hzB ne).trans SB.out.2.2⟩⟩
  have rA' : (Instr.lookup 43 (.map (some m)) (.agg #[.int .i64 vk, .int .i64 vn, .string vs]) false).run Try.prog W0.drew = .ok vA W0.drew := rA
  have rB' : (Instr.lookup 43 (.map (some m)) (.agg #[.int .i64 vk, .int .i64 vn, .string vs]) false).run Try.prog (W0.alloc (.cells #[.int .i64 (i : Int)] 3)).drew = .ok vB (W0.alloc (.cells #[.int .i64 (i : Int)] 3)).drew := rB
  clear rA rB
  have OA := Lib.hid (And.intro oA (And.intro oA' KA))
  have OB := Lib.hid (And.intro oB (And.intro oB.1 KB))
  have HW := Lib.hid hW0
  have HCN := Lib.hid CN
  clear twoS hW0 G0 GA GB noRow hown hat atA atB oA oB oA' backA backB CN hB1 wf hv KA KB tyB outB HA0 hB1' HWF
  go_enter Try.func17, Try.ntmps17
  go_upto_region 1 with fail
  rw [← HW.out]
  go_wp2_with fail
  go_region_held3 (fun W => W.cell? ⟨w.heap.size, 0, none⟩ = some (.int .i64 vk) ∧ W.cell? ⟨w.heap.size, 1, none⟩ = some (.int .i64 vn) ∧ W.cell? ⟨w.heap.size, 2, none⟩ = some (.string vs)) (first | exact SA.out | exact SB.out | exact SC.out | exact SD.out) (first | (refine step_append_lies _ rfl _ _ 31 rfl base 3 i0 (.int .i64 0) 1 8 Try.underlying31 hi0 hz0 hz1 hz2 rfl (by omega) vA zB.length (zB.map (Value.int .i64)) rfl OA.out.2.1 _ 1 1 [.int .i64 (i : Int)] rfl rfl HCN.out (ints_oneCell .i64 [(i : Int)]) (by omega) (by unfold maxLen; omega) (by omega) (by simp; omega) _ rfl ?_; intro g cap w1 ho hg hl hlt; obtain ⟨w2, hrun, FIN, SC⟩ := OA.out.2.2 g cap w1 ho hg (hl.imp id (fun e => by simpa using e)); have FIN := Lib.hid FIN; have SD := Lib.hid SC.2; have SC := Lib.hid SC.1; clear ho hg hl hlt) | (refine step_append_lies _ rfl _ _ 31 rfl base 3 i0 (.int .i64 0) 1 8 Try.underlying31 hi0 hz0 hz1 hz2 rfl (by omega) vB zB.length (zB.map (Value.int .i64)) rfl OB.out.2.1 _ 1 1 [.int .i64 (i : Int)] rfl rfl HCN.out (ints_oneCell .i64 [(i : Int)]) (by omega) (by unfold maxLen; omega) (by omega) (by simp; omega) _ rfl ?_; intro g cap w1 ho hg hl hlt; obtain ⟨w2, hrun, FIN, SC⟩ := OB.out.2.2 g cap w1 ho hg (hl.imp id (fun e => by simpa using e)); have FIN := Lib.hid FIN; have SD := Lib.hid SC.2; have SC := Lib.hid SC.1; clear ho hg hl hlt))
  all_goals go_wp2_with fail
  all_goals go_end0
  all_goals exact ⟨rfl, FIN.out.1, FIN.out.2⟩

end Go.Proofs.Ytflbeccfdbjbhaa
