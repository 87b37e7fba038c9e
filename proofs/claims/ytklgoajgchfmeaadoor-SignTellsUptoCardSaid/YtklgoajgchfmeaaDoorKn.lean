/- A part of the proof. -/
import Derived.Test.YtklgoajgchfmeaaDoorKe
import Derived.Test.YtklgoajgchfmeaaDoorKm
import Derived.Test.YtklgoajgchfmeaaDoorTxE
import Derived.Test.YtklgoajgchfmeaaDoorKf
set_option linter.unusedVariables false
set_option linter.unusedSimpArgs false
namespace Go.Proofs.YtklgoajgchfmeaaDoor
open Go.Lib
def commutes (op : Int) : Bool := op == 4 || op == 6 || op == 9 || op == 10 || op == 15 || op == 16
def ahead2 : List Ex → Bool
  | [a, b] => Op.bytesLess b.print a.print
  | _ => false
def fixE (op : Int) (v : Val) (rel col n : Int) (s : ByteArray) (l : List Ex) : Ex :=
  if op = 13 then .mk 11 v rel col n s l.reverse else if op = 14 then .mk 12 v rel col n s l.reverse
  else if commutes op && ahead2 l then .mk op v rel col n s l.reverse else .mk op v rel col n s l
mutual
def Ex.norm : Ex → Ex
  | .mk op v rel col n s l => fixE op v rel col n s (normL l)
def normL : List Ex → List Ex
  | [] => []
  | x :: r => x.norm :: normL r
end
theorem normL_map : ∀ l : List Ex, normL l = l.map Ex.norm
  | [] => by rw [normL]; rfl
  | x :: r => by rw [normL, normL_map r]; rfl
theorem okL_rev : ∀ l : List Ex, okL l.reverse = okL l
  | [] => rfl
  | x :: r => by rw [List.reverse_cons, okL_append, okL_rev r, okL, okL, okL, Bool.and_true, Bool.and_comm]
theorem deepL_rev : ∀ l : List Ex, deepL l.reverse = deepL l
  | [] => rfl
  | x :: r => by rw [List.reverse_cons, deepL_append, deepL_rev r, deepL, deepL, deepL]; omega
theorem countL_rev : ∀ l : List Ex, countL l.reverse = countL l
  | [] => rfl
  | x :: r => by rw [List.reverse_cons, countL_append, countL_rev r, countL, countL, countL]; omega
theorem tabsL_rev : ∀ l : List Ex, tabsL l.reverse = tabsL l
  | [] => rfl
  | x :: r => by rw [List.reverse_cons, tabsL_append, tabsL_rev r, tabsL, tabsL, tabsL, Nat.or_zero, Nat.or_comm]
theorem safeL_rev : ∀ l : List Ex, safeL l.reverse = safeL l
  | [] => rfl
  | x :: r => by rw [List.reverse_cons, safeL_append, safeL_rev r, safeL, safeL, safeL, Bool.and_true, Bool.and_comm]
theorem head_lt {v : Val} {rel col n : Int} {s : ByteArray} {len : Nat} : headOk 11 v rel col n s len = headOk 13 v rel col n s len := by simp [headOk, wantsOf]
theorem head_le {v : Val} {rel col n : Int} {s : ByteArray} {len : Nat} : headOk 12 v rel col n s len = headOk 14 v rel col n s len := by simp [headOk, wantsOf]
theorem fix_same (op : Int) (v : Val) (rel col n : Int) (s : ByteArray) (l : List Ex) :
    (fixE op v rel col n s l).okAll = (Ex.mk op v rel col n s l).okAll ∧ (fixE op v rel col n s l).deep = (Ex.mk op v rel col n s l).deep ∧ (fixE op v rel col n s l).count = (Ex.mk op v rel col n s l).count ∧ (fixE op v rel col n s l).tabs = (Ex.mk op v rel col n s l).tabs ∧ (fixE op v rel col n s l).safe = (Ex.mk op v rel col n s l).safe := by
  unfold fixE
  split
  · subst op
    refine ⟨?_, ?_, ?_, ?_, ?_⟩
    · rw [Ex.okAll, Ex.okAll, List.length_reverse, okL_rev, head_lt]
    · rw [Ex.deep, Ex.deep, deepL_rev]
    · rw [Ex.count, Ex.count, countL_rev]
    · rw [Ex.tabs, Ex.tabs, tabsL_rev]; rfl
    · rw [Ex.safe, Ex.safe, safeL_rev]; rfl
  · split
    · subst op
      refine ⟨?_, ?_, ?_, ?_, ?_⟩
      · rw [Ex.okAll, Ex.okAll, List.length_reverse, okL_rev, head_le]
      · rw [Ex.deep, Ex.deep, deepL_rev]
      · rw [Ex.count, Ex.count, countL_rev]
      · rw [Ex.tabs, Ex.tabs, tabsL_rev]; rfl
      · rw [Ex.safe, Ex.safe, safeL_rev]; rfl
    · split
      · refine ⟨?_, ?_, ?_, ?_, ?_⟩
        · rw [Ex.okAll, Ex.okAll, List.length_reverse, okL_rev]
        · rw [Ex.deep, Ex.deep, deepL_rev]
        · rw [Ex.count, Ex.count, countL_rev]
        · rw [Ex.tabs, Ex.tabs, tabsL_rev]
        · rw [Ex.safe, Ex.safe, safeL_rev]
      · exact ⟨rfl, rfl, rfl, rfl, rfl⟩
mutual
theorem norm_same : ∀ x : Ex, x.norm.okAll = x.okAll ∧ x.norm.deep = x.deep ∧ x.norm.count = x.count ∧ x.norm.tabs = x.tabs ∧ x.norm.safe = x.safe
  | .mk op v rel col n s l => by
    obtain ⟨a0, a1, a2, a3, a4, a5⟩ := normL_same l
    obtain ⟨h1, h2, h3, h4, h5⟩ := fix_same op v rel col n s (normL l)
    rw [Ex.norm]
    refine ⟨h1.trans ?_, h2.trans ?_, h3.trans ?_, h4.trans ?_, h5.trans ?_⟩
    · rw [Ex.okAll, Ex.okAll, a0, a1]
    · rw [Ex.deep, Ex.deep, a2]
    · rw [Ex.count, Ex.count, a3]
    · rw [Ex.tabs, Ex.tabs, a4]
    · rw [Ex.safe, Ex.safe, a5]
theorem normL_same : ∀ l : List Ex, (normL l).length = l.length ∧ okL (normL l) = okL l ∧ deepL (normL l) = deepL l ∧ countL (normL l) = countL l ∧ tabsL (normL l) = tabsL l ∧ safeL (normL l) = safeL l
  | [] => by rw [normL]; exact ⟨rfl, rfl, rfl, rfl, rfl, rfl⟩
  | x :: r => by
    obtain ⟨h1, h2, h3, h4, h5⟩ := norm_same x
    obtain ⟨a0, a1, a2, a3, a4, a5⟩ := normL_same r
    rw [normL]
    refine ⟨by simp [a0], ?_, ?_, ?_, ?_, ?_⟩
    · rw [okL, okL, h1, a1]
    · rw [deepL, deepL, h2, a2]
    · rw [countL, countL, h3, a3]
    · rw [tabsL, tabsL, h4, a4]
    · rw [safeL, safeL, h5, a5]
end
theorem right_iff8 {x : Ex} : rightE x = true ↔ x.okAll = true ∧ x.deep ≤ 20 ∧ x.count ≤ 200 := by
  unfold rightE sizesE
  split
  · rename_i h; exact ⟨fun _ => h, fun _ => rfl⟩
  · rename_i h; exact ⟨fun e => (by cases e), fun e => absurd e h⟩
theorem right_of8 {x y : Ex} (h1 : x.okAll = y.okAll) (h2 : x.deep = y.deep) (h3 : x.count = y.count) : rightE x = rightE y := by
  rw [Bool.eq_iff_iff, right_iff8, right_iff8, h1, h2, h3]
theorem norm_right (x : Ex) : rightE x.norm = rightE x := right_of8 (norm_same x).1 (norm_same x).2.1 (norm_same x).2.2.1
theorem ahead_rev {l : List Ex} (h : ahead2 l = true) : ahead2 l.reverse = false := by
  match l, h with
  | [a, b], h => exact bl_anti _ _ h
theorem normL_rev : ∀ l : List Ex, normL l.reverse = (normL l).reverse := fun l => by rw [normL_map, normL_map, List.map_reverse]
mutual
theorem norm_norm : ∀ x : Ex, x.norm.norm = x.norm
  | .mk op v rel col n s l => by
    have h := normL_norm l
    rw [Ex.norm, fixE]
    split
    · rw [Ex.norm, normL_rev, h, fixE, if_neg (by decide), if_neg (by decide), if_neg (by simp [commutes])]
    · split
      · rw [Ex.norm, normL_rev, h, fixE, if_neg (by decide), if_neg (by decide), if_neg (by simp [commutes])]
      · split
        · rename_i h1 h2 h3
          rw [Bool.and_eq_true] at h3
          rw [Ex.norm, normL_rev, h, fixE, if_neg h1, if_neg h2, if_neg (by rw [ahead_rev h3.2]; simp)]
        · rename_i h1 h2 h3
          rw [Ex.norm, h, fixE, if_neg h1, if_neg h2, if_neg h3]
theorem normL_norm : ∀ l : List Ex, normL (normL l) = normL l
  | [] => by rw [normL, normL]
  | x :: r => by rw [normL, normL, norm_norm x, normL_norm r]
end
mutual
theorem same_eq : ∀ x y : Ex, x.okAll = true → y.okAll = true → sameE x y = true → x = y
  | .mk op v rel col n s l, .mk op' v' rel' col' n' s' l', hx, hy, h => by
    rw [Ex.okAll, Bool.and_eq_true] at hx hy
    have e1 := (head_shape hx.1).1
    have e2 := (head_shape hy.1).1
    rw [sameE] at h
    simp only [Bool.and_eq_true, beq_iff_eq] at h
    obtain ⟨⟨⟨⟨⟨rfl, ⟨hk, hn⟩, hs⟩, rfl⟩, rfl⟩, rfl⟩, hl⟩ := h
    obtain ⟨k, n0, s0⟩ := v
    obtain ⟨k', n0', s0'⟩ := v'
    simp only at hk hn hs
    have hs' : s0 = s0' := ba_eq.2 hs
    have hs2 : s = s' := ba_eq.2 (e1.trans e2.symm)
    subst hk hn hs' hs2
    rw [sameL_eq l l' hx.2 hy.2 hl]
theorem sameL_eq : ∀ l m : List Ex, okL l = true → okL m = true → sameL l m = true → l = m
  | [], [], _, _, _ => rfl
  | x :: l, y :: m, hx, hy, h => by
    rw [sameL, Bool.and_eq_true] at h
    rw [okL, Bool.and_eq_true] at hx hy
    rw [same_eq x y hx.1 hy.1 h.1, sameL_eq l m hx.2 hy.2 h.2]
  | [], _ :: _, _, _, h => by simp [sameL] at h
  | _ :: _, [], _, _, h => by simp [sameL] at h
end
theorem print_inj {x y : Ex} (hx : x.okAll = true) (hy : y.okAll = true) (h : x.print = y.print) : x = y := same_eq x y hx hy ((print_iff hx hy).1 h)
def insE (x : Ex) : List Ex → List Ex
  | [] => [x]
  | y :: r => if Op.bytesLess y.print x.print then y :: insE x r else if y.print = x.print then y :: r else x :: y :: r
def sortE (L : List Ex) : List Ex := L.foldl (fun K x => insE x K) []
def ltE (a b : Ex) : Prop := Op.bytesLess a.print b.print = true
theorem ins_mem (x : Ex) (hx : x.okAll = true) : ∀ (K : List Ex), (∀ y ∈ K, y.okAll = true) → ∀ z, z ∈ insE x K ↔ z = x ∨ z ∈ K
  | [], _, z => by simp [insE]
  | y :: r, hK, z => by
    rw [insE]
    split
    · rw [List.mem_cons, ins_mem x hx r (fun y hy => hK y (by simp [hy])) z, List.mem_cons]
      constructor
      · rintro (h | h | h)
        · exact .inr (.inl h)
        · exact .inl h
        · exact .inr (.inr h)
      · rintro (h | h | h)
        · exact .inr (.inl h)
        · exact .inl h
        · exact .inr (.inr h)
    · split
      · rename_i h
        have e := print_inj (hK y (by simp)) hx h
        subst e
        simp
      · simp
theorem ins_sorted (x : Ex) : ∀ (K : List Ex), K.Pairwise ltE → (insE x K).Pairwise ltE ∧ ∀ z ∈ insE x K, z = x ∨ z ∈ K
  | [], _ => ⟨by rw [insE]; exact List.pairwise_singleton _ _, fun z hz => by rw [insE] at hz; simpa using hz⟩
  | y :: r, h => by
    rw [List.pairwise_cons] at h
    obtain ⟨h1, h2⟩ := ins_sorted x r h.2
    rw [insE]
    split
    · rename_i hl
      refine ⟨List.pairwise_cons.2 ⟨fun z hz => ?_, h1⟩, fun z hz => ?_⟩
      · rcases h2 z hz with rfl | h'
        · exact hl
        · exact h.1 z h'
      · rcases List.mem_cons.1 hz with e | hz
        · exact .inr (by simp [e])
        · rcases h2 z hz with e | h
          · exact .inl e
          · exact .inr (by simp [h])
    · rename_i hl
      split
      · exact ⟨List.pairwise_cons.2 h, fun z hz => .inr hz⟩
      · rename_i hne
        have hxy : ltE x y := bl_total y.print x.print hne (by simpa using hl)
        refine ⟨List.pairwise_cons.2 ⟨fun z hz => ?_, List.pairwise_cons.2 h⟩, fun z hz => by simpa using hz⟩
        rcases List.mem_cons.1 hz with rfl | hz
        · exact hxy
        · exact bl_trans _ _ _ hxy (h.1 z hz)
theorem foldl_ins : ∀ (L K : List Ex), (∀ y ∈ L, y.okAll = true) → (∀ y ∈ K, y.okAll = true) → K.Pairwise ltE → (L.foldl (fun K x => insE x K) K).Pairwise ltE ∧ ∀ z, z ∈ L.foldl (fun K x => insE x K) K ↔ z ∈ L ∨ z ∈ K
  | [], K, _, _, h => ⟨h, fun z => by simp⟩
  | x :: L, K, hL, hK, h => by
    have hx := hL x (by simp)
    have hm := ins_mem x hx K hK
    obtain ⟨h1, h2⟩ := foldl_ins L (insE x K) (fun y hy => hL y (by simp [hy])) (fun y hy => by
      rcases (hm y).1 hy with rfl | h
      · exact hx
      · exact hK y h) (ins_sorted x K h).1
    refine ⟨h1, fun z => ?_⟩
    rw [List.foldl_cons, h2, hm, List.mem_cons]
    constructor
    · rintro (h | h | h)
      · exact .inl (.inr h)
      · exact .inl (.inl h)
      · exact .inr h
    · rintro ((h | h) | h)
      · exact .inr (.inl h)
      · exact .inl h
      · exact .inr (.inr h)
theorem sortE_is {L : List Ex} (h : ∀ y ∈ L, y.okAll = true) : (sortE L).Pairwise ltE ∧ ∀ z, z ∈ sortE L ↔ z ∈ L := by
  obtain ⟨h1, h2⟩ := foldl_ins L [] h (by simp) List.Pairwise.nil
  exact ⟨h1, fun z => by rw [sortE, h2]; simp⟩
theorem ltE_irr (a : Ex) : ¬ ltE a a := fun h => by have := bl_anti _ _ h; rw [h] at this; cases this
theorem sorted_one : ∀ (K M : List Ex), K.Pairwise ltE → M.Pairwise ltE → (∀ z, z ∈ K ↔ z ∈ M) → K = M
  | [], [], _, _, _ => rfl
  | [], y :: M, _, _, h => by have := (h y).2 (by simp); simp at this
  | x :: K, [], _, _, h => by have := (h x).1 (by simp); simp at this
  | x :: K, y :: M, hK, hM, h => by
    rw [List.pairwise_cons] at hK hM
    have e : x = y := by
      have h1 := (h x).1 (by simp)
      have h2 := (h y).2 (by simp)
      rcases List.mem_cons.1 h1 with e | h1
      · exact e
      · rcases List.mem_cons.1 h2 with e | h2
        · exact e.symm
        · have a := hK.1 y h2
          have b := hM.1 x h1
          exact absurd (bl_trans _ _ _ a b) (ltE_irr x)
    subst e
    rw [sorted_one K M hK.2 hM.2 fun z => ?_]
    constructor
    · intro hz
      rcases List.mem_cons.1 ((h z).1 (by simp [hz])) with e | h'
      · subst e; exact absurd (hK.1 z hz) (ltE_irr z)
      · exact h'
    · intro hz
      rcases List.mem_cons.1 ((h z).2 (by simp [hz])) with e | h'
      · subst e; exact absurd (hM.1 z hz) (ltE_irr z)
      · exact h'
theorem sortE_fix {L : List Ex} (hL : ∀ y ∈ L, y.okAll = true) (h : L.Pairwise ltE) : sortE L = L := sorted_one _ _ (sortE_is hL).1 h (sortE_is hL).2
theorem ins_len (x : Ex) : ∀ K : List Ex, (insE x K).length ≤ K.length + 1
  | [] => by simp [insE]
  | y :: r => by
    have := ins_len x r
    rw [insE]
    split
    · simp; omega
    · split <;> simp
theorem foldl_len : ∀ (L K : List Ex), (L.foldl (fun K x => insE x K) K).length ≤ K.length + L.length
  | [], K => by simp
  | x :: L, K => by
    have h1 := foldl_len L (insE x K)
    have h2 := ins_len x K
    rw [List.foldl_cons, List.length_cons]
    omega
theorem sortE_len (L : List Ex) : (sortE L).length ≤ L.length := by have := foldl_len L []; simp [sortE] at this ⊢; exact this
def condsE (L : List Ex) : List Ex := if L.all rightE = true then sortE (L.map Ex.norm) else []
theorem all_right {L : List Ex} (h : L.all rightE = true) : ∀ y ∈ L.map Ex.norm, y.okAll = true := fun y hy => by
  obtain ⟨x, hx, rfl⟩ := List.mem_map.1 hy
  rw [(norm_same x).1]
  exact (right_iff8.1 (List.all_eq_true.1 h x hx)).1
theorem sorted_right {L : List Ex} (h : L.all rightE = true) : (sortE (L.map Ex.norm)).all rightE = true := List.all_eq_true.2 fun y hy => by
  obtain ⟨x, hx, rfl⟩ := List.mem_map.1 (((sortE_is (all_right h)).2 y).1 hy)
  rw [norm_right]
  exact List.all_eq_true.1 h x hx
theorem conds_again (L : List Ex) : condsE (condsE L) = condsE L ∧ (condsE L).all rightE = true ∧ (condsE L).length ≤ L.length := by
  unfold condsE
  by_cases h : L.all rightE = true
  · have hr := sorted_right h
    rw [if_pos h, if_pos hr]
    refine ⟨?_, hr, by have := sortE_len (L.map Ex.norm); simpa using this⟩
    have hs := sortE_is (all_right h)
    have e : (sortE (L.map Ex.norm)).map Ex.norm = sortE (L.map Ex.norm) := by
      conv => rhs; rw [← List.map_id (sortE (L.map Ex.norm))]
      refine List.map_congr_left fun y hy => ?_
      obtain ⟨x, -, rfl⟩ := List.mem_map.1 ((hs.2 y).1 hy)
      exact norm_norm x
    rw [e]
    exact sortE_fix (fun y hy => all_right h y ((hs.2 y).1 hy)) hs.1
  · rw [if_neg h]
    exact ⟨by simp [sortE], rfl, Nat.zero_le _⟩
open Go.RowKit Go.Deep
set_option maxRecDepth 100000
theorem right_op {op : Int} {v : Val} {rel col n : Int} {s : ByteArray} {l : List Ex} (h : rightE (.mk op v rel col n s l) = true) : headOk op v rel col n s l.length = true ∧ ∀ y ∈ l, rightE y = true := by
  obtain ⟨h1, h2, h3⟩ := right_iff8.1 h
  rw [Ex.okAll, Bool.and_eq_true] at h1
  rw [Ex.deep] at h2
  rw [Ex.count] at h3
  refine ⟨h1.1, fun y hy => right_iff8.2 ?_⟩
  obtain ⟨i, hi, he⟩ := List.getElem_of_mem hy
  have hg : l[i]? = some y := by rw [List.getElem?_eq_getElem hi, he]
  have h4 := countL_step hg
  have h5 := countL_le l (i + 1)
  have h6 := deepL_mem hg
  exact ⟨okL_all h1.2 hg, by omega, by omega⟩
set_option maxHeartbeats 4000000 in
theorem text_any (x : Ex) (cs : List Value) (w : World) (hx : ExM w x cs) (hG : GE w) (hr : rightE x = true) : Calls Tryd.prog 40 #[.agg cs.toArray] w fun e w' => e = .returned (.string (bsB x.print)) ∧ Below w.heap.size w w' := by
  have HX := Lib.hid hx
  have HG := Lib.hid hG
  have HT := Lib.hid (show textR x = (x.print, 0) by unfold textR; rw [if_pos hr])
  obtain ⟨op, v, rel, col, n, s, l⟩ := x
  rw [ExM.iff] at hx
  obtain ⟨-, q, c, rfl, -, -⟩ := hx
  obtain ⟨len, hlen⟩ : ∃ len, len = l.length := ⟨_, rfl⟩
  rw [← hlen] at HX ⊢
  clear hlen hr
  have E0 := EB.new w op v rel col n s q len c 26
  have B0 : Below w.heap.size w (w.alloc (.cells (exCells op v rel col n s q len c).toArray 26)) := ext_alloc (ext_refl _) _
  obtain ⟨W, hW⟩ : ∃ W, W = w.alloc (.cells (exCells op v rel col n s q len c).toArray 26) := ⟨_, rfl⟩
  rw [← hW] at E0 B0
  go_enter Tryd.func40, Tryd.ntmps40
  go_upto_region 1 with fail
  rw [← hW]
  clear hW
  obtain ⟨g, hg⟩ : ∃ g, g = w.heap.size := ⟨_, rfl⟩
  have HB := Lib.hid B0
  have HGW := Lib.hid hg
  rw [← hg] at E0
  rw [← hg]
  clear B0 hg
  have HE := Lib.hid E0
  obtain ⟨lt, c0, c1, c2, c3, c4, c5, c6, c7, c8⟩ := E0
  go_wp2_with fail
  refine (dtext_any _ _ W (ExM.ext HB.out _ _ HX.out) (HG.out.on HB.out)).mono ?_
  rintro e X ⟨rfl, hbX⟩
  have HBX := Lib.hid (HB.out.trans (hbX.mono HB.out.size))
  obtain ⟨Z, hZ⟩ : ∃ Z, Z = bsB (Ex.mk op v rel col n s l).print := ⟨_, rfl⟩
  have HZ := Lib.hid hZ
  rw [HT.out]
  rw [← hZ]
  clear hbX hZ lt c0 c1 c2 c3 c4 c5 c6 c7 c8
  go_wp2_with fail
  refine bodyPost_ret (v := .string Z) (by simp [results, Tryd.results40, go_sem]) rfl ⟨by rw [HZ.out], HBX.out⟩
theorem OwnX.two {w : World} {b : Nat} {P : Nat → Prop} {v : Value} {y0 y1 : Ex} (h : OwnX w b P v [y0, y1]) : ∃ g c r0 r1, v = .slice (some ⟨g, 0, none⟩) 2 c ∧ b ≤ g ∧ g < w.heap.size ∧ OwnE w b (.slice (some ⟨g, 0, none⟩) 2 c) [r0, r1] ∧
    ExMP w (fun k => P k ∧ k ≠ g) y0 r0.cells ∧ ExMP w (fun k => P k ∧ k ≠ g) y1 r1.cells := by
  obtain ⟨K, h1, h2, h3⟩ := h
  match K, h2 with
  | [r0, r1], _ =>
    obtain ⟨q, c, e, -, -, hq, hA⟩ := OwnF.arr RawE.cells_len h1
    obtain ⟨g, o, rfl, -, -, -⟩ := hA 0 (by simp)
    obtain ⟨rfl, hbg, hg, -⟩ := hq g o rfl
    have e' : v = .slice (some ⟨g, 0, none⟩) 2 c := e
    subst e'
    have hP : ∀ k, (P k ∧ (Value.slice (some ⟨g, 0, none⟩) 2 c).ownBlock ≠ some k) → P k ∧ k ≠ g := fun k hk => ⟨hk.1, fun e => hk.2 (by rw [e]; rfl)⟩
    exact ⟨g, c, r0, r1, rfl, hbg, hg, h1, ExMP.on (Nat.le_refl _) (fun _ _ _ => rfl) (fun k hk _ => hP k hk) _ _ (h3 0 r0 y0 rfl rfl), ExMP.on (Nat.le_refl _) (fun _ _ _ => rfl) (fun k hk _ => hP k hk) _ _ (h3 1 r1 y1 rfl rfl)⟩
theorem OwnX.swapped {w w' : World} {b g c : Nat} {P : Nat → Prop} {y0 y1 : Ex} {r0 r1 : RawE} (h0 : ExMP w (fun k => P k ∧ k ≠ g) y0 r0.cells) (h1 : ExMP w (fun k => P k ∧ k ≠ g) y1 r1.cells) (hO : OwnE w' b (.slice (some ⟨g, 0, none⟩) 2 c) [r1, r0]) (ho : Out (fun k => k = g) w w') : OwnX w' b P (.slice (some ⟨g, 0, none⟩) 2 c) [y1, y0] := by
  have hP : ∀ (y : Ex) (cs : List Value), ExMP w (fun k => P k ∧ k ≠ g) y cs → ExMP w' (fun k => P k ∧ (Value.slice (some ⟨g, 0, none⟩) 2 c).ownBlock ≠ some k) y cs := fun y cs hy => ExMP.on ho.size (fun k hk hkw => ho.block k hkw hk.2) (fun k hk _ => ⟨hk.1, fun e => hk.2 (by cases e; rfl)⟩) y cs hy
  refine ⟨[r1, r0], hO, rfl, fun j r x hr hx => ?_⟩
  match j, hr, hx with
  | 0, hr, hx => cases hr; cases hx; exact hP _ _ h1
  | 1, hr, hx => cases hr; cases hx; exact hP _ _ h0
end Go.Proofs.YtklgoajgchfmeaaDoor
