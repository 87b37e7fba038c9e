/- A part of the proof. -/
import Derived.Test.YtklgoajgchfmeaaDoorKf
import Derived.Test.YtklgoajgchfmeaaDoorKb
import Derived.Deep.Quiet
import Derived.Deep.QuietTactic
import Derived.BigQuiet
import Derived.Laws.BytesString
import Derived.ProofKit
import Derived.Lib.SmallJoins
import Derived.Deep.Slices
import Derived.Deep.Strs
import Derived.SizedLaws
import Derived.Test.YtklgoajgchfmeaaDoorKd
import Derived.Test.YtklgoajgchfmeaaDoorDvC
import Derived.StillTail
set_option linter.unusedVariables false
set_option linter.unusedSimpArgs false
namespace Go.Proofs.YtklgoajgchfmeaaDoor
open Go.Lib
def commutes (op : Int) : Bool := op == 4 || op == 6 || op == 9 || op == 10 || op == 15 || op == 16
def ahead2 : List Ex → Bool
  | [a, b] => Op.bytesLess b.print a.print
  | _ => false
def fixE (op : Int) (v : Val) (rel col n : Int) (s : ByteArray) (l : List Ex) : Ex :=
  if op = 13 then .mk 11 v rel col n s l.reverse else if op = 14 then .mk 12 v rel col n s l.reverse
  else if commutes op && ahead2 l then .mk op v rel col n s l.reverse else .mk op v rel col n s l
mutual
def Ex.norm : Ex → Ex
  | .mk op v rel col n s l => fixE op v rel col n s (normL l)
def normL : List Ex → List Ex
  | [] => []
  | x :: r => x.norm :: normL r
end
theorem normL_map : ∀ l : List Ex, normL l = l.map Ex.norm
  | [] => by rw [normL]; rfl
  | x :: r => by rw [normL, normL_map r]; rfl
theorem okL_rev : ∀ l : List Ex, okL l.reverse = okL l
  | [] => rfl
  | x :: r => by rw [List.reverse_cons, okL_append, okL_rev r, okL, okL, okL, Bool.and_true, Bool.and_comm]
theorem deepL_rev : ∀ l : List Ex, deepL l.reverse = deepL l
  | [] => rfl
  | x :: r => by rw [List.reverse_cons, deepL_append, deepL_rev r, deepL, deepL, deepL]; omega
theorem countL_rev : ∀ l : List Ex, countL l.reverse = countL l
  | [] => rfl
  | x :: r => by rw [List.reverse_cons, countL_append, countL_rev r, countL, countL, countL]; omega
theorem tabsL_rev : ∀ l : List Ex, tabsL l.reverse = tabsL l
  | [] => rfl
  | x :: r => by rw [List.reverse_cons, tabsL_append, tabsL_rev r, tabsL, tabsL, tabsL, Nat.or_zero, Nat.or_comm]
theorem safeL_rev : ∀ l : List Ex, safeL l.reverse = safeL l
  | [] => rfl
  | x :: r => by rw [List.reverse_cons, safeL_append, safeL_rev r, safeL, safeL, safeL, Bool.and_true, Bool.and_comm]
theorem head_lt {v : Val} {rel col n : Int} {s : ByteArray} {len : Nat} : headOk 11 v rel col n s len = headOk 13 v rel col n s len := by simp [headOk, wantsOf]
theorem head_le {v : Val} {rel col n : Int} {s : ByteArray} {len : Nat} : headOk 12 v rel col n s len = headOk 14 v rel col n s len := by simp [headOk, wantsOf]
theorem fix_same (op : Int) (v : Val) (rel col n : Int) (s : ByteArray) (l : List Ex) :
    (fixE op v rel col n s l).okAll = (Ex.mk op v rel col n s l).okAll ∧ (fixE op v rel col n s l).deep = (Ex.mk op v rel col n s l).deep ∧ (fixE op v rel col n s l).count = (Ex.mk op v rel col n s l).count ∧ (fixE op v rel col n s l).tabs = (Ex.mk op v rel col n s l).tabs ∧ (fixE op v rel col n s l).safe = (Ex.mk op v rel col n s l).safe := by
  unfold fixE
  split
  · subst op
    refine ⟨?_, ?_, ?_, ?_, ?_⟩
    · rw [Ex.okAll, Ex.okAll, List.length_reverse, okL_rev, head_lt]
    · rw [Ex.deep, Ex.deep, deepL_rev]
    · rw [Ex.count, Ex.count, countL_rev]
    · rw [Ex.tabs, Ex.tabs, tabsL_rev]; rfl
    · rw [Ex.safe, Ex.safe, safeL_rev]; rfl
  · split
    · subst op
      refine ⟨?_, ?_, ?_, ?_, ?_⟩
      · rw [Ex.okAll, Ex.okAll, List.length_reverse, okL_rev, head_le]
      · rw [Ex.deep, Ex.deep, deepL_rev]
      · rw [Ex.count, Ex.count, countL_rev]
      · rw [Ex.tabs, Ex.tabs, tabsL_rev]; rfl
      · rw [Ex.safe, Ex.safe, safeL_rev]; rfl
    · split
      · refine ⟨?_, ?_, ?_, ?_, ?_⟩
        · rw [Ex.okAll, Ex.okAll, List.length_reverse, okL_rev]
        · rw [Ex.deep, Ex.deep, deepL_rev]
        · rw [Ex.count, Ex.count, countL_rev]
        · rw [Ex.tabs, Ex.tabs, tabsL_rev]
        · rw [Ex.safe, Ex.safe, safeL_rev]
      · exact ⟨rfl, rfl, rfl, rfl, rfl⟩
mutual
theorem norm_same : ∀ x : Ex, x.norm.okAll = x.okAll ∧ x.norm.deep = x.deep ∧ x.norm.count = x.count ∧ x.norm.tabs = x.tabs ∧ x.norm.safe = x.safe
  | .mk op v rel col n s l => by
    obtain ⟨a0, a1, a2, a3, a4, a5⟩ := normL_same l
    obtain ⟨h1, h2, h3, h4, h5⟩ := fix_same op v rel col n s (normL l)
    rw [Ex.norm]
    refine ⟨h1.trans ?_, h2.trans ?_, h3.trans ?_, h4.trans ?_, h5.trans ?_⟩
    · rw [Ex.okAll, Ex.okAll, a0, a1]
    · rw [Ex.deep, Ex.deep, a2]
    · rw [Ex.count, Ex.count, a3]
    · rw [Ex.tabs, Ex.tabs, a4]
    · rw [Ex.safe, Ex.safe, a5]
theorem normL_same : ∀ l : List Ex, (normL l).length = l.length ∧ okL (normL l) = okL l ∧ deepL (normL l) = deepL l ∧ countL (normL l) = countL l ∧ tabsL (normL l) = tabsL l ∧ safeL (normL l) = safeL l
  | [] => by rw [normL]; exact ⟨rfl, rfl, rfl, rfl, rfl, rfl⟩
  | x :: r => by
    obtain ⟨h1, h2, h3, h4, h5⟩ := norm_same x
    obtain ⟨a0, a1, a2, a3, a4, a5⟩ := normL_same r
    rw [normL]
    refine ⟨by simp [a0], ?_, ?_, ?_, ?_, ?_⟩
    · rw [okL, okL, h1, a1]
    · rw [deepL, deepL, h2, a2]
    · rw [countL, countL, h3, a3]
    · rw [tabsL, tabsL, h4, a4]
    · rw [safeL, safeL, h5, a5]
end
theorem right_iff8 {x : Ex} : rightE x = true ↔ x.okAll = true ∧ x.deep ≤ 20 ∧ x.count ≤ 200 := by
  unfold rightE sizesE
  split
  · rename_i h; exact ⟨fun _ => h, fun _ => rfl⟩
  · rename_i h; exact ⟨fun e => (by cases e), fun e => absurd e h⟩
theorem right_of8 {x y : Ex} (h1 : x.okAll = y.okAll) (h2 : x.deep = y.deep) (h3 : x.count = y.count) : rightE x = rightE y := by
  rw [Bool.eq_iff_iff, right_iff8, right_iff8, h1, h2, h3]
theorem norm_right (x : Ex) : rightE x.norm = rightE x := right_of8 (norm_same x).1 (norm_same x).2.1 (norm_same x).2.2.1
mutual
theorem same_eq : ∀ x y : Ex, x.okAll = true → y.okAll = true → sameE x y = true → x = y
  | .mk op v rel col n s l, .mk op' v' rel' col' n' s' l', hx, hy, h => by
    rw [Ex.okAll, Bool.and_eq_true] at hx hy
    have e1 := (head_shape hx.1).1
    have e2 := (head_shape hy.1).1
    rw [sameE] at h
    simp only [Bool.and_eq_true, beq_iff_eq] at h
    obtain ⟨⟨⟨⟨⟨rfl, ⟨hk, hn⟩, hs⟩, rfl⟩, rfl⟩, rfl⟩, hl⟩ := h
    obtain ⟨k, n0, s0⟩ := v
    obtain ⟨k', n0', s0'⟩ := v'
    simp only at hk hn hs
    have hs' : s0 = s0' := ba_eq.2 hs
    have hs2 : s = s' := ba_eq.2 (e1.trans e2.symm)
    subst hk hn hs' hs2
    rw [sameL_eq l l' hx.2 hy.2 hl]
theorem sameL_eq : ∀ l m : List Ex, okL l = true → okL m = true → sameL l m = true → l = m
  | [], [], _, _, _ => rfl
  | x :: l, y :: m, hx, hy, h => by
    rw [sameL, Bool.and_eq_true] at h
    rw [okL, Bool.and_eq_true] at hx hy
    rw [same_eq x y hx.1 hy.1 h.1, sameL_eq l m hx.2 hy.2 h.2]
  | [], _ :: _, _, _, h => by simp [sameL] at h
  | _ :: _, [], _, _, h => by simp [sameL] at h
end
theorem print_inj {x y : Ex} (hx : x.okAll = true) (hy : y.okAll = true) (h : x.print = y.print) : x = y := same_eq x y hx hy ((print_iff hx hy).1 h)
def insE (x : Ex) : List Ex → List Ex
  | [] => [x]
  | y :: r => if Op.bytesLess y.print x.print then y :: insE x r else if y.print = x.print then y :: r else x :: y :: r
def sortE (L : List Ex) : List Ex := L.foldl (fun K x => insE x K) []
def ltE (a b : Ex) : Prop := Op.bytesLess a.print b.print = true
theorem ins_mem (x : Ex) (hx : x.okAll = true) : ∀ (K : List Ex), (∀ y ∈ K, y.okAll = true) → ∀ z, z ∈ insE x K ↔ z = x ∨ z ∈ K
  | [], _, z => by simp [insE]
  | y :: r, hK, z => by
    rw [insE]
    split
    · rw [List.mem_cons, ins_mem x hx r (fun y hy => hK y (by simp [hy])) z, List.mem_cons]
      constructor
      · rintro (h | h | h)
        · exact .inr (.inl h)
        · exact .inl h
        · exact .inr (.inr h)
      · rintro (h | h | h)
        · exact .inr (.inl h)
        · exact .inl h
        · exact .inr (.inr h)
    · split
      · rename_i h
        have e := print_inj (hK y (by simp)) hx h
        subst e
        simp
      · simp
theorem ins_sorted (x : Ex) : ∀ (K : List Ex), K.Pairwise ltE → (insE x K).Pairwise ltE ∧ ∀ z ∈ insE x K, z = x ∨ z ∈ K
  | [], _ => ⟨by rw [insE]; exact List.pairwise_singleton _ _, fun z hz => by rw [insE] at hz; simpa using hz⟩
  | y :: r, h => by
    rw [List.pairwise_cons] at h
    obtain ⟨h1, h2⟩ := ins_sorted x r h.2
    rw [insE]
    split
    · rename_i hl
      refine ⟨List.pairwise_cons.2 ⟨fun z hz => ?_, h1⟩, fun z hz => ?_⟩
      · rcases h2 z hz with rfl | h'
        · exact hl
        · exact h.1 z h'
      · rcases List.mem_cons.1 hz with e | hz
        · exact .inr (by simp [e])
        · rcases h2 z hz with e | h
          · exact .inl e
          · exact .inr (by simp [h])
    · rename_i hl
      split
      · exact ⟨List.pairwise_cons.2 h, fun z hz => .inr hz⟩
      · rename_i hne
        have hxy : ltE x y := bl_total y.print x.print hne (by simpa using hl)
        refine ⟨List.pairwise_cons.2 ⟨fun z hz => ?_, List.pairwise_cons.2 h⟩, fun z hz => by simpa using hz⟩
        rcases List.mem_cons.1 hz with rfl | hz
        · exact hxy
        · exact bl_trans _ _ _ hxy (h.1 z hz)
theorem foldl_ins : ∀ (L K : List Ex), (∀ y ∈ L, y.okAll = true) → (∀ y ∈ K, y.okAll = true) → K.Pairwise ltE → (L.foldl (fun K x => insE x K) K).Pairwise ltE ∧ ∀ z, z ∈ L.foldl (fun K x => insE x K) K ↔ z ∈ L ∨ z ∈ K
  | [], K, _, _, h => ⟨h, fun z => by simp⟩
  | x :: L, K, hL, hK, h => by
    have hx := hL x (by simp)
    have hm := ins_mem x hx K hK
    obtain ⟨h1, h2⟩ := foldl_ins L (insE x K) (fun y hy => hL y (by simp [hy])) (fun y hy => by
      rcases (hm y).1 hy with rfl | h
      · exact hx
      · exact hK y h) (ins_sorted x K h).1
    refine ⟨h1, fun z => ?_⟩
    rw [List.foldl_cons, h2, hm, List.mem_cons]
    constructor
    · rintro (h | h | h)
      · exact .inl (.inr h)
      · exact .inl (.inl h)
      · exact .inr h
    · rintro ((h | h) | h)
      · exact .inr (.inl h)
      · exact .inl h
      · exact .inr (.inr h)
theorem sortE_is {L : List Ex} (h : ∀ y ∈ L, y.okAll = true) : (sortE L).Pairwise ltE ∧ ∀ z, z ∈ sortE L ↔ z ∈ L := by
  obtain ⟨h1, h2⟩ := foldl_ins L [] h (by simp) List.Pairwise.nil
  exact ⟨h1, fun z => by rw [sortE, h2]; simp⟩
theorem ltE_irr (a : Ex) : ¬ ltE a a := fun h => by have := bl_anti _ _ h; rw [h] at this; cases this
theorem sorted_one : ∀ (K M : List Ex), K.Pairwise ltE → M.Pairwise ltE → (∀ z, z ∈ K ↔ z ∈ M) → K = M
  | [], [], _, _, _ => rfl
  | [], y :: M, _, _, h => by have := (h y).2 (by simp); simp at this
  | x :: K, [], _, _, h => by have := (h x).1 (by simp); simp at this
  | x :: K, y :: M, hK, hM, h => by
    rw [List.pairwise_cons] at hK hM
    have e : x = y := by
      have h1 := (h x).1 (by simp)
      have h2 := (h y).2 (by simp)
      rcases List.mem_cons.1 h1 with e | h1
      · exact e
      · rcases List.mem_cons.1 h2 with e | h2
        · exact e.symm
        · have a := hK.1 y h2
          have b := hM.1 x h1
          exact absurd (bl_trans _ _ _ a b) (ltE_irr x)
    subst e
    rw [sorted_one K M hK.2 hM.2 fun z => ?_]
    constructor
    · intro hz
      rcases List.mem_cons.1 ((h z).1 (by simp [hz])) with e | h'
      · subst e; exact absurd (hK.1 z hz) (ltE_irr z)
      · exact h'
    · intro hz
      rcases List.mem_cons.1 ((h z).2 (by simp [hz])) with e | h'
      · subst e; exact absurd (hM.1 z hz) (ltE_irr z)
      · exact h'
theorem sortE_same {L M : List Ex} (hL : ∀ y ∈ L, y.okAll = true) (hM : ∀ y ∈ M, y.okAll = true) (h : ∀ z, z ∈ L ↔ z ∈ M) : sortE L = sortE M :=
  sorted_one _ _ (sortE_is hL).1 (sortE_is hM).1 fun z => by rw [(sortE_is hL).2, (sortE_is hM).2, h]
theorem ins_len (x : Ex) : ∀ K : List Ex, (insE x K).length ≤ K.length + 1
  | [] => by simp [insE]
  | y :: r => by
    have := ins_len x r
    rw [insE]
    split
    · simp; omega
    · split <;> simp
theorem foldl_len : ∀ (L K : List Ex), (L.foldl (fun K x => insE x K) K).length ≤ K.length + L.length
  | [], K => by simp
  | x :: L, K => by
    have h1 := foldl_len L (insE x K)
    have h2 := ins_len x K
    rw [List.foldl_cons, List.length_cons]
    omega
theorem sortE_len (L : List Ex) : (sortE L).length ≤ L.length := by have := foldl_len L []; simp [sortE] at this ⊢; exact this
theorem all_right {L : List Ex} (h : L.all rightE = true) : ∀ y ∈ L.map Ex.norm, y.okAll = true := fun y hy => by
  obtain ⟨x, hx, rfl⟩ := List.mem_map.1 hy
  rw [(norm_same x).1]
  exact (right_iff8.1 (List.all_eq_true.1 h x hx)).1
open Go.RowKit
structure After (G : World) where
  W : World
  below : Below G.heap.size G W
theorem After.some (G : World) : Nonempty (After G) := ⟨⟨G, Below.refl _ _⟩⟩
theorem After.cell {G : World} (x : After G) (b o : Nat) (h : b < G.heap.size) : x.W.cell? ⟨b, o, none⟩ = G.cell? ⟨b, o, none⟩ := x.below.cell (p := ⟨b, o, none⟩) h
theorem wp_region_after {P : Program} {id : Nat} {Q : Exit → Act → World → Prop} {a : Act} {w : World} {l : List Oper} (hm : P.follows .mixedOrders = true) (hB : Region.lexB .any l.toArray = true)
    (h : wpQuiet P l.toArray (fun w' => ∃ x : After w, w' = x.W) (fun a' => ∀ w', (∃ x : After w, w' = x.W) → Q .normal a' w') l a) : (Code.region id l.toArray true).wp P Q a w :=
  wp_region_quiet (C := fun w' => ∃ x : After w, w' = x.W) hm hB ⟨⟨w.drew, (Below.refl _ _).drew⟩, rfl⟩ (by simpa using h)
theorem calls_after {P : Program} {f : FuncId} {args : Array Value} {G : World} {x : After G} {v : Value} (h : Calls P f args x.W fun e w' => e = .returned v ∧ Below x.W.heap.size x.W w') :
    Calls P f args x.W fun e w'' => e = .returned v ∧ ∃ y : After G, w'' = y.W :=
  h.mono fun _ w' ⟨he, hb⟩ => ⟨he, ⟨w', x.below.trans (hb.mono x.below.size)⟩, rfl⟩
abbrev bsB (l : Bs) : ByteArray := ⟨l.toArray⟩
theorem bsB_add (a b : Bs) : bsB a ++ bsB b = bsB (a ++ b) := by
  apply ByteArray.ext
  rw [ByteArray.data_append]
  apply Array.ext'
  simp
open Go.RowKit
theorem Tryd.infoU8 : (Tryd.prog.info? 5).map (fun i => (i.zero, i.size, i.bytes)) = some (some (.int .u8 0), 1, 1) := by kernel_rfl
def OwnB (w : World) (base : Nat) (v : Value) (l : List Int) : Prop := w.ownsRow base 5 1 v l.length (l.map (Value.int .u8))
theorem OwnB.nil (w : World) (base : Nat) : OwnB w base (.slice none 0 0) [] := World.ownsRow_nil _ _ _ _
theorem OwnB.later {w w' : World} {base : Nat} {v : Value} {l : List Int} (h : OwnB w base v l) (hb : Below w.heap.size w w') : OwnB w' base v l := by
  obtain ⟨h1, h2⟩ := h
  refine ⟨h1, ?_⟩
  rcases h2 with h2 | ⟨g, cap, cur, hv, hg, hh, r⟩
  · exact .inl h2
  · have hlt : g < w.heap.size := by
      rcases Nat.lt_or_ge g w.heap.size with h | h
      · exact h
      · rw [Array.getElem?_eq_none h] at hh; cases hh
    exact .inr ⟨g, cap, cur, hv, hg, by rw [hb.block g hlt]; exact hh, r⟩
theorem OwnB.slice {w : World} {base : Nat} {v : Value} {l : List Int} (h : OwnB w base v l) : ∃ p n c, v = .slice p n c := by
  rcases h.2 with ⟨rfl, _⟩ | ⟨g, cap, cur, rfl, _⟩
  · exact ⟨_, _, _, rfl⟩
  · exact ⟨_, _, _, rfl⟩
theorem wp_append_byte2 {w : World} {ops : Array Oper} {rest : List Oper} {o : Oper} {a : Act} {Q : Exit → Act → World → Prop} (hgd : o.guard = none) (s x : Operand)
    (ho : o.op = .call { callee := .builtin .append, args := #[s, x], argTypes := #[62, 62] }) (base : Nat) (v : Value) (l : List Int) (hs : a.eval s = v) (hown : OwnB w base v l)
    (y : Int) (g c : Nat) (hx : a.eval x = .slice (some ⟨g, 0, none⟩) 1 c) (hc : w.cell? ⟨g, 0, none⟩ = some (.int .u8 y)) (hlen : l.length < 1099511627776) (hbase : base ≤ w.heap.size)
    (h : ∀ v' w', OwnB w' base v' (l ++ [y]) → w.grownBy w' v.ownBlock → Below base w w' → wpList Tryd.prog ops Q rest (a.put o.dst v') w') : wpList Tryd.prog ops Q (o :: rest) a w := by
  obtain ⟨i0, hi, hz0, hz1, hz2⟩ := info_parts Tryd.infoU8
  refine wpList_append_own w hgd s x 62 ho base 5 i0 (.int .u8 0) 1 1 Tryd.underlying62 hi hz0 hz1 hz2 rfl (by decide) v l.length _ hs hown ⟨g, 0, none⟩ 1 c [.int .u8 y] hx rfl ?_ ?_ ?_ ?_ hbase ?_
  · intro j u hj
    match j, hj with
    | 0, hj => simp at hj; subst hj; simpa [Addr.add] using hc
  · intro u hu
    simp at hu
    subst hu
    rfl
  · unfold maxLen; omega
  · omega
  · intro v' w' h1 h2 _
    refine h v' w' ?_ h2 ((Below.refl _ _).grown h2 hbase fun k hk => (hown.lt _ hk).1)
    unfold OwnB
    rw [List.length_append, List.map_append]
    exact h1
open Go.RowKit
set_option maxRecDepth 100000
abbrev toJ (l : Bs) : List Int := l.map fun b => (b.toNat : Int)
theorem toJ_app (a b : Bs) : toJ (a ++ b) = toJ a ++ toJ b := List.map_append
theorem toJ_push (l : Bs) : ∀ acc : ByteArray, (toJ l).foldl (fun (r : ByteArray) (n : Int) => r.push (UInt8.ofNat n.toNat)) acc = ⟨acc.data ++ l.toArray⟩ := by
  induction l with
  | nil => intro acc; simp [toJ]
  | cons b l ih =>
    intro acc
    have := ih (acc.push b)
    unfold toJ at this ⊢
    simp only [List.map_cons, List.foldl_cons, Int.toNat_natCast, UInt8.ofNat_toNat]
    rw [this]
    simp [ByteArray.push]
theorem conv_own {w : World} {base : Nat} {v : Value} {l : Bs} (h : OwnB w base v (toJ l)) : (convert 62 9 v).run Tryd.prog w = .ok (.string (bsB l)) w := by
  have h' := h
  obtain ⟨h1, h2⟩ := h'
  rcases h2 with ⟨rfl, h0⟩ | ⟨g, cap, cur, rfl, hb, hg, hn, hm, hc, ht⟩
  · have : l = [] := by rw [List.length_map] at h0; exact List.eq_nil_of_length_eq_zero h0
    subst this
    rw [run_convert_bytes_string w 62 9 5 none 0 0 Tryd.underlying62 Tryd.underlying5 Tryd.underlying9]
    rfl
  · rw [run_convert_bytes_string w 62 9 5 _ _ _ Tryd.underlying62 Tryd.underlying5 Tryd.underlying9]
    have hl : (loadCells ⟨g, 0, none⟩ (toJ l).length).run Tryd.prog w = .ok ((toJ l).map (Value.int .u8)).toArray w := by
      have := run_loadCells_list (P := Tryd.prog) w ⟨g, 0, none⟩ ((toJ l).map (Value.int .u8)) (fun j u hu => World.ownsRow.cells h (g := g) rfl j u hu)
      rwa [List.length_map] at this
    rw [run_bytesToString w _ _ cap (toJ l) hl, toJ_push]
    simp
open Go.ChangeShapes Go.WideShapes Go.ChangeAt Go.RowKit Go.Joins
set_option maxRecDepth 100000
theorem Tryd.own : ownKnob Tryd.prog.godebug = none := by kernel_rfl
theorem Tryd.laidOut : laidOutB Tryd.prog = true := by kernel_rfl
section
variable {H : Type} {enc : TypeId × Value → H}
theorem all_stay {W W' : World} (hb : Below W.heap.size W W') : ∀ {ts : List TypeId} {vs : List Value} {ds : List (DataW H)} {ps : List MemPlace},
    (∀ t ∈ ts, Tryd.prog.readableRec t = true ∧ t < Tryd.prog.types.size) → DataW.TrodAll enc Tryd.prog W 0 (fun _ => true) true ts vs ds ps → (∀ x ∈ ps, x.block < W.heap.size) →
    DataW.TrodAll enc Tryd.prog W' 0 (fun b => decide (b < W.heap.size)) true ts vs ds ps
  | [], [], [], _, _, h, _ => h
  | t :: ts, v :: vs, d :: ds, ps, hr, h, hlt => by
    obtain ⟨p, q, h1, h2, rfl⟩ := h
    have hp : ∀ x ∈ p, x.block < W.heap.size := fun x hx => hlt x (List.mem_append_left _ hx)
    have hq : ∀ x ∈ q, x.block < W.heap.size := fun x hx => hlt x (List.mem_append_right _ hx)
    exact ⟨p, q, Below.trod Tryd.laidOut (hr t List.mem_cons_self).1 (hr t List.mem_cons_self).2 h1 hb hp, all_stay hb (fun t' ht' => hr t' (List.mem_cons_of_mem _ ht')) h2 hq, rfl⟩
  | [], [], _ :: _, _, _, h, _ => h.elim
  | [], _ :: _, _, _, _, h, _ => h.elim
  | _ :: _, [], _, _, _, h, _ => h.elim
  | _ :: _, _ :: _, [], _, _, h, _ => h.elim
theorem post_law {f : Func} {s : ChangeSpec} {W W' : World} {args : Array Value} {ds gs : List (DataW H)} {before : List MemPlace} (hv : s.vars = [])
    (hW : DataW.Whole enc Tryd.prog f.params.toList s.vars false W args.toList ds gs before) (hfn : s.fn H ds = { results := [.lit (.bool true)], args := ds }) (hres : f.resultTypes = #[4])
    (hread : ∀ t ∈ f.params.toList, Tryd.prog.readableRec t = true ∧ t < Tryd.prog.types.size) (hb : Below W.heap.size W W') : s.post enc Tryd.prog f false true false false W args (.bool true) W' := by
  have hW' := hW
  obtain ⟨p, q, hA, hV, rfl, _, _⟩ := hW
  rw [hv] at hV
  obtain ⟨rfl, rfl⟩ := trodVars_none hV
  have hlt : ∀ x ∈ p, x.block < W.heap.size := fun x hx => hW'.lt x (List.mem_append_left _ hx)
  refine ⟨ds, [], p ++ [], [], p, [], hW', ?_, ?_, ?_, hb.frame _, fun h => by cases h⟩
  · rw [List.append_nil, hfn, hres]
    exact trodAll_mk1 (shut_bool Tryd.underlying4 true)
  · rw [List.append_nil, hfn]
    exact all_stay hb hread hA hlt
  · rw [List.append_nil, hfn, hv]
    exact rfl
theorem Tryd.cellsVal : Tryd.prog.cellsOf 23 = 3 := by kernel_rfl
theorem open_num {r : Reach} {b0 base : Nat} {W : World} {spare : Nat → Bool} {held : Bool} {v : Value} {d : DataW H} {p : List MemPlace} (hv : Value.okWide Tryd.prog W r b0 3 v) (h : DataW.Trod enc Tryd.prog W base spare held 3 v d p) :
    ∃ x : Int, v = .int .i64 x ∧ inR x = true := by
  obtain ⟨x, rfl, rfl, rfl, wx⟩ := open_int Tryd.underlying3 hv h
  exact ⟨x, rfl, by simpa [inR, Lit.wf, IntKind.min, IntKind.signed, IntKind.bits] using wx⟩
end
open Go.ChangeShapes Go.WideShapes Go.ChangeAt Go.RowKit Go.Joins Go.Deep
set_option maxRecDepth 100000
instance : Inhabited Val := ⟨nul⟩
section
variable {H : Type} {enc : TypeId × Value → H}
theorem cells_val {W : World} {base n : Nat} {spare : Nat → Bool} {held : Bool} {cs : List Value} {y : DataW H × List MemPlace} (h : DataW.trod enc Tryd.prog W base spare held n 23 cs = some y) :
    ∃ x : Val, cs = [.int .i64 x.k, .int .i64 x.n, .string x.s] ∧ inR x.k = true ∧ inR x.n = true ∧ x.s.size ≤ maxLen := by
  obtain ⟨y0, y1, y2, m, _, hl, h0, h1, h2⟩ := trod_struct3 Tryd.underlying23 h
  rw [Tryd.cellsVal] at hl
  match cs, hl with
  | [v0, v1, v2], _ =>
    obtain ⟨a, e0, _, wa⟩ := DataW.trod_int Tryd.underlying3 h0
    obtain ⟨b, e1, _, wb⟩ := DataW.trod_int Tryd.underlying3 h1
    obtain ⟨s, e2, _, hs⟩ := DataW.trod_string Tryd.underlying9 h2
    have k3 : Tryd.prog.cellsOf 3 = 1 := by kernel_rfl
    have k9 : Tryd.prog.cellsOf 9 = 1 := by kernel_rfl
    simp [k3, k9] at e0 e1 e2
    subst e0 e1 e2
    refine ⟨⟨a, b, s⟩, rfl, ?_, ?_, hs⟩
    · simpa [inR, Lit.wf, IntKind.min, IntKind.signed, IntKind.bits] using wa
    · simpa [inR, Lit.wf, IntKind.min, IntKind.signed, IntKind.bits] using wb
end
open Go.ChangeShapes Go.WideShapes Go.ChangeAt Go.RowKit Go.Joins Go.Deep
set_option maxRecDepth 100000
theorem weights_mem {H : Type} {P : Program} {e : TypeId} {l : List (DataW H)} {d : DataW H} (hd : d ∈ l) {n : Nat} (hn : n ∈ d.weights P e) : n ∈ DataW.weightsAll P e l := by
  induction l with
  | nil => cases hd
  | cons a l ih =>
    simp only [DataW.weightsAll, List.mem_append]
    rcases List.mem_cons.1 hd with rfl | h
    · exact .inl hn
    · exact .inr (ih h)
theorem addr_off (b off n : Nat) : (⟨b, off, none⟩ : Addr).add n = ⟨b, off + n, none⟩ := by
  unfold Addr.add
  split
  · rename_i h; subst h; rfl
  · rfl
theorem addr_here {W : World} {a : Addr} {v : Value} (h : W.cell? a = some v) : a = ⟨a.block, a.off, none⟩ ∧ a.block < W.heap.size := by
  refine ⟨?_, World.block_lt_of_cell? W a (by rw [h])⟩
  obtain ⟨b, o, s⟩ := a
  cases s with
  | none => rfl
  | some k =>
    simp only [World.cell?] at h
    split at h <;> simp at h
section
variable {H : Type} {enc : TypeId × Value → H}
theorem open_arr {α : Type} [Inhabited α] {t e : TypeId} {sz : Nat} (ht : Tryd.prog.underlying t = some (.slice e)) (hsz : Tryd.prog.cellsOf e = sz) (h0 : 0 < sz) {W : World} {base fuel : Nat} {spare : Nat → Bool} {held : Bool} {cs : List Value} {y : DataW H × List MemPlace}
    (P : Nat → Nat → α → Prop) (Q : α → Prop) (hf : DataW.trod enc Tryd.prog W base spare held fuel t cs = some y) (hz : ∀ n ∈ y.1.weights Tryd.prog t, n ≤ reachBytes)
    (hel : ∀ (cs : List Value) (y : DataW H × List MemPlace) (n : Nat), DataW.trod enc Tryd.prog W base spare held n e cs = some y → (∀ n ∈ y.1.weights Tryd.prog e, n ≤ reachBytes) → ∀ g o, (∀ (k : Nat) v, k < sz → cs[k]? = some v → W.cell? ⟨g, o + k, none⟩ = some v) → ∃ x, P g o x ∧ Q x) :
    ∃ (q : Option Addr) (l : List α) (c : Nat), cs = [.slice q l.length c] ∧ l.length ≤ c ∧ c ≤ 9223372036854775807 ∧ l.length * Tryd.prog.bytesOf e ≤ reachBytes ∧ ArrA 0 W.heap.size q sz l P ∧ ∀ x ∈ l, Q x := by
  rcases open_slice ht hf with ⟨hc, _⟩ | ⟨a, len, cap, m, n, D, Pl, hc, hb, hl, hm, hmm, hx, hi⟩
  · exact ⟨none, [], 0, hc, Nat.le_refl _, by omega, by simp, fun i hi => absurd hi (by simp), fun x hx => absurd hx (by simp)⟩
  · have hlm : len ≤ m := by rw [hmm]; split <;> omega
    rw [hsz] at hi
    subst hx
    have hcell : ∀ i, i < len → ∃ cs', (∀ k, k < sz → W.cell? (a.add (i * sz + k)) = cs'[k]?) ∧ cs'.length = sz ∧ DataW.trod enc Tryd.prog W base spare held n e cs' = some (D i, Pl i) := by
      intro i hil
      obtain ⟨cs', hcs, htr⟩ := hi i (by omega)
      obtain ⟨_, hlen, hat⟩ := World.cells?_some hcs
      exact ⟨cs', fun k hk => by have h1 := hat k hk; rw [add_add] at h1; exact h1, hlen, htr⟩
    have haddr : 0 < len → a = ⟨a.block, a.off, none⟩ ∧ a.block < W.heap.size := by
      intro hl0
      obtain ⟨cs', hk, hlen, _⟩ := hcell 0 hl0
      have h1 := hk 0 h0
      rw [Nat.zero_mul, Nat.zero_add, Addr.add, if_pos rfl, List.getElem?_eq_getElem (by omega)] at h1
      exact addr_here h1
    have each : ∀ i, i < len → ∃ x : α, P a.block (a.off + i * sz) x ∧ Q x := by
      intro i hil
      obtain ⟨cs', hk, hlen, htr⟩ := hcell i hil
      refine hel cs' _ n htr (fun w hw => hz w ?_) _ _ (fun k v hks hv => ?_)
      · simp only [DataW.weights, ht]
        exact List.mem_cons_of_mem _ (List.mem_append.2 (.inl (weights_mem (d := D i) (List.mem_map.2 ⟨i, List.mem_range.2 hil, rfl⟩) hw)))
      · have h1 := hk k hks
        rw [(haddr (by omega)).1, addr_off, hv] at h1
        rw [Nat.add_assoc]
        exact h1
    obtain ⟨T, hT⟩ := choose_lt each
    have hlen : ((List.range len).map T).length = len := by simp
    refine ⟨some a, (List.range len).map T, cap, by rw [hlen]; exact hc, by rw [hlen]; exact hl, by unfold maxLen at hm; omega, ?_, fun i hi => ?_, fun x hx => ?_⟩
    · rw [hlen]
      have h1 := hz ((((List.range len).map D).length + ((List.range (m - len)).map fun j => D (len + j)).length) * Tryd.prog.bytesOf e) (by simp [DataW.weights, ht])
      simp at h1
      exact Nat.le_trans (Nat.mul_le_mul_right _ (by omega)) h1
    · rw [hlen] at hi
      obtain ⟨ha, hlt⟩ := haddr (by omega)
      refine ⟨a.block, a.off, by rw [← ha], Nat.zero_le _, hlt, fun j x hx => ?_⟩
      have hj : j < len := by
        rcases Nat.lt_or_ge j len with h | h
        · exact h
        · rw [List.getElem?_eq_none (by rw [hlen]; exact h)] at hx; cases hx
      have : T j = x := by simpa [hj] using hx
      rw [← this]
      exact (hT j hj).1
    · obtain ⟨j, hj, rfl⟩ := List.mem_map.1 hx
      exact (hT j (List.mem_range.1 hj)).2
instance : Inhabited ByteArray := ⟨⟨#[]⟩⟩
instance : Inhabited Col := ⟨⟨⟨#[]⟩, 0⟩⟩
instance : Inhabited Tab := ⟨⟨⟨#[]⟩, [], []⟩⟩
theorem Tryd.cellsStr : Tryd.prog.cellsOf 9 = 1 := by kernel_rfl
theorem Tryd.cellsInt : Tryd.prog.cellsOf 3 = 1 := by kernel_rfl
end
open Go.RowKit
set_option maxRecDepth 100000
theorem dcol_ok {op : Int} {v : Val} {rel col n : Int} {s : ByteArray} {len : Nat} (h : headOk op v rel col n s len = true) (h2 : op = 2) : 0 ≤ col ∧ col ≤ 5 := by
  obtain ⟨_, _, _, h⟩ := head_parts h
  rcases h with ⟨h1, _⟩ | ⟨_, ⟨_, h1⟩ | ⟨h1, _⟩ | h1⟩
  · omega
  · exact ⟨h1.2.2.1, h1.2.2.2.1⟩
  · omega
  · omega
theorem n_ok {op : Int} {v : Val} {rel col n : Int} {s : ByteArray} {len : Nat} (h : headOk op v rel col n s len = true) (h3 : op = 3) : 1 ≤ n ∧ n ≤ 4 := by
  obtain ⟨_, _, _, h⟩ := head_parts h
  rcases h with ⟨h1, _⟩ | ⟨_, ⟨h1, _⟩ | ⟨_, h1⟩ | h1⟩
  · omega
  · omega
  · exact ⟨h1.2.2.1, h1.2.2.2⟩
  · omega
open Go.RowKit
section
variable {P : Program} {ops : Array Oper} {md : Region.Mode} {C : World → Prop}
def anyHead (P : Program) (md : Region.Mode) (ops : Array Oper) (C : World → Prop) (n : Nat) (L : Array Bool → Act → Prop) : Nat → Array Bool → Act → Prop
  | 0, listed, a => L listed a
  | f + 1, listed, a => Region.ready md ops listed ≠ [] ∧ ∀ i ∈ Region.ready md ops listed, i < n ∧ qOp P ops C i (anyHead P md ops C n L f (listed.setIfInBounds i true)) a
theorem anyHead_goes {n g : Nat} {L : Array Bool → Act → Prop} {Q' : Exit → Act → World → Prop} (hL : ∀ listed a w, C w → L listed a → wpAny P md ops Q' g listed a w) :
    ∀ (f : Nat) (listed : Array Bool) (a : Act) (w : World), C w → anyHead P md ops C n L f listed a → wpAny P md ops Q' (f + g) listed a w
  | 0, listed, a, w, hw, h => by rw [Nat.zero_add]; exact hL _ _ _ hw h
  | f + 1, listed, a, w, hw, h => by
    rw [show f + 1 + g = (f + g) + 1 by omega]
    exact ⟨fun h0 => absurd h0 h.1, fun i hi => wpOp_of_qOp hw (fun a' w' hw' h' => anyHead_goes hL f _ a' w' hw' h') (h.2 i hi).2⟩
theorem anyHead_first {n i : Nat} {oi : Oper} {v : Value} {L : Array Bool → Act → Prop} (hi : ops[i]? = some oi) (hsel : ∀ (j : Nat) (o : Oper) cs b, ops[j]? = some o → o.op ≠ .select cs b)
    (hs : Region.sinkB md ops n = true) (hc : Region.chainB md ops n = true) (hn : n < ops.size) (hin : i < n) (hdone : ∀ listed a, L listed a → ∀ j ∈ Region.ready md ops listed, n ≤ j) :
    ∀ (f : Nat) (listed : Array Bool) (a : Act), HeadInv md ops n listed →
      (∀ j oj, ops[j]? = some oj → j ≠ i → listed.getD j true = false → (∀ e ∈ oj.after, Region.binds md e = true → e.on ≠ i) → oi.apart ops oj = true) →
      i ∈ Region.ready md ops listed → YieldsIn P ops C oi v a →
      anyHead P md ops C n L f (listed.setIfInBounds i true) (a.put oi.dst v) → anyHead P md ops C n L (f + 1) listed a := by
  intro f
  induction f with
  | zero =>
    intro listed a inv _ hr hy H
    refine ⟨fun h => (by rw [h] at hr; cases hr), fun j hj => ?_⟩
    have hjn : j < n := Nat.lt_of_not_le fun h => absurd hj (tail_waits hs hc hn inv _ i rfl hin (mem_ready.1 hr).1 j h)
    refine ⟨hjn, ?_⟩
    by_cases hji : j = i
    · subst hji; exact hy.qOp hi H
    · have := hdone _ _ H j (ready_mono hj hji)
      omega
  | succ f ih =>
    intro listed a inv hfree hr hy H
    refine ⟨fun h => (by rw [h] at hr; cases hr), fun j hj => ?_⟩
    have hjn : j < n := Nat.lt_of_not_le fun h => absurd hj (tail_waits hs hc hn inv _ i rfl hin (mem_ready.1 hr).1 j h)
    refine ⟨hjn, ?_⟩
    by_cases hji : j = i
    · subst hji; exact hy.qOp hi H
    · obtain ⟨hjun, oj, hoj, hall⟩ := mem_ready.1 hj
      have hnot : ∀ e ∈ oj.after, Region.binds md e = true → e.on ≠ i := fun e he hb heq => by
        have h1 := hall e he hb
        rw [heq, getD_both (mem_ready.1 hr).1] at h1
        cases h1
      refine qOp_mono (fun a' h3 => ih (listed.setIfInBounds j true) a' (inv.set hj hjn) (fun k ok hk hki hun hno => ?_) (ready_mono hr (Ne.symm hji)) h3.1 ?_)
        (qOp_put hoj (hfree j oj hoj hji hjun hnot) (fun cs b => hsel i oi cs b hi) (fun cs b => hsel j oj cs b hoj) hy (H.2 j (ready_mono hj hji)).2)
      · refine hfree k ok hk hki ?_ hno
        by_cases hjk : j = k
        · subst hjk; exact hjun
        · rwa [getD_set_ne true hjk] at hun
      · rw [Array.setIfInBounds_comm _ _ hji]
        exact h3.2
theorem anyHead_lex {n g : Nat} {Lq : Act → Prop} (hsel : Region.noSelect ops = true) (hs : Region.sinkB md ops n = true) (hc : Region.chainB md ops n = true) (hn : n < ops.size) :
    ∀ (l : List Oper) (k : Nat) (listed : Array Bool) (a : Act), (∀ j, j < l.length → l[j]? = ops[k + j]?) → k + l.length = n → HeadInv md ops n listed →
    Region.lexHead md ops g l.length k listed = true → wpQuiet P ops C Lq l a →
    anyHead P md ops C n (fun listed' a' => Region.seqB md ops g n listed' = true ∧ Lq a') l.length listed a
  | [], k, listed, a, _, hk, _, hB, h => by
    obtain rfl : k = n := by simpa using hk
    exact ⟨by simpa [Region.lexHead] using hB, h⟩
  | o :: l, k, listed, a, hl, hk, inv, hB, h => by
    have h0 : ops[k]? = some o := by simpa using (hl 0 (by simp)).symm
    simp only [List.length_cons, Region.lexHead, Bool.and_eq_true] at hB
    obtain ⟨⟨hr, hf⟩, hB'⟩ := hB
    have hkn : k < n := by simp only [List.length_cons] at hk; omega
    have hr' : k ∈ Region.ready md ops listed := by simpa using hr
    obtain ⟨v, hy, hK⟩ := yieldsIn_of_qOp h0 (show qOp P ops C k (wpQuiet P ops C Lq l) a by unfold qOp; simp only [h0]; exact h)
    exact anyHead_first h0 (Region.noSelect_spec hsel) hs hc hn hkn (fun listed' a' hL => seqB_ready hL.1) l.length listed a inv (Region.free_spec h0 hf) hr' hy
      (anyHead_lex hsel hs hc hn l (k + 1) _ _ (fun j hj => by have := hl (j + 1) (by simp; omega); simpa [Nat.add_assoc, Nat.add_comm 1 j] using this) (by simp only [List.length_cons] at hk; omega) (inv.set hr' hkn) hB' hK)
theorem wp_region_quiet_tail {id : Nat} {Q : Exit → Act → World → Prop} {a : Act} {w : World} {l : List Oper} (n : Nat) (hm : P.follows .mixedOrders = true) (hB : Region.lexTailB .any l.toArray n = true) (hC : C { w with drawn := w.drawn + 1 })
    (h : wpQuiet P l.toArray C (fun a' => ∀ w', C w' → wpList P l.toArray Q (l.drop n) a' w') (l.take n) a) : (Code.region id l.toArray true).wp P Q a w := by
  simp only [Region.lexTailB, Bool.and_eq_true, decide_eq_true_eq] at hB
  obtain ⟨⟨⟨⟨hsel, hn⟩, hs⟩, hc⟩, hlex⟩ := hB
  have hn' : n < l.length := by simpa using hn
  have htl : (l.take n).length = n := by simp; omega
  have hdl : (l.drop n).length = l.toArray.size - n := by simp
  have inv0 : HeadInv .any l.toArray n (Array.replicate l.toArray.size false) :=
    ⟨by simp, fun j oj _ hl => (by rw [getD_replicate_false] at hl; cases hl), fun t _ ht => getD_in (by simpa using ht) (getD_replicate_false _ _)⟩
  have H := anyHead_lex (md := .any) (C := C) (g := l.toArray.size - n) hsel hs hc hn (l.take n) 0 _ a (fun j hj => by
    have hj' : j < n := by rw [htl] at hj; exact hj
    simp [hj']) (by simpa using htl) inv0 (by rw [htl]; exact hlex) h
  have G := anyHead_goes (Q' := Q) (g := l.toArray.size - n) (fun listed a' w' hw' hL => by
    have := wpAny_of_seq (md := .any) (Q' := Q) (l.drop n) n listed a' w' (fun j => by simp [List.getElem?_drop]) (by rw [hdl]; exact hL.1) (hL.2 w' hw')
    rwa [hdl] at this) _ _ _ _ hC H
  rw [htl, show n + (l.toArray.size - n) = l.toArray.size by omega] at G
  exact wp_region_any hm G
end
theorem wp_region_after_tail {P : Program} {id : Nat} {Q : Exit → Act → World → Prop} {a : Act} {w : World} {l : List Oper} (n : Nat) (hm : P.follows .mixedOrders = true) (hB : Region.lexTailB .any l.toArray n = true)
    (h : wpQuiet P l.toArray (fun w' => ∃ x : After w, w' = x.W) (fun a' => ∀ w', (∃ x : After w, w' = x.W) → wpList P l.toArray Q (l.drop n) a' w') (l.take n) a) : (Code.region id l.toArray true).wp P Q a w :=
  wp_region_quiet_tail (C := fun w' => ∃ x : After w, w' = x.W) n hm hB ⟨⟨w.drew, (Below.refl _ _).drew⟩, rfl⟩ h
open Go.RowKit Go.Shelf
set_option maxRecDepth 100000
attribute [local go_sem] Oper.semAt_some
open Go.RowKit
set_option maxRecDepth 100000
theorem op_range {op : Int} {v : Val} {rel col n : Int} {s : ByteArray} {len : Nat} (h : headOk op v rel col n s len = true) : 1 ≤ op ∧ op ≤ 18 := by
  have h1 := (head_parts h).1
  unfold wantsOf at h1
  split at h1
  · omega
  · omega
end Go.Proofs.YtklgoajgchfmeaaDoor
