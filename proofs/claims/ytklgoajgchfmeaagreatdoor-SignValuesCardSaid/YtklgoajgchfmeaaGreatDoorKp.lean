/- A part of the proof. -/
import Derived.Test.YtklgoajgchfmeaaGreatDoorKo
import Derived.Sort.OwnSorted
import Derived.Test.YtklgoajgchfmeaaGreatDoorKi
import Derived.Test.YtklgoajgchfmeaaGreatDoorKd
import Derived.Test.YtklgoajgchfmeaaGreatDoorKe
set_option linter.unusedVariables false
set_option linter.unusedSimpArgs false
namespace Go.Proofs.YtklgoajgchfmeaaGreatDoor
open Go.RowKit Go.Maps Go.Sort Go.Shelf Go.ChangeShapes Go.Deep
open Go.Proofs (encStr)
set_option maxRecDepth 100000
theorem sortsX_in (k : Nat) : AnyZ.SortsIn Tryz.prog Tryz.sorted23_ren Fence.wide k :=
  ⟨fun blk off cap ss W hH hblk hsz => callsIn_wide.2 (AnyM.slices_Sort_string Tryz.sort47 blk off cap ss W hH hblk hsz), fun p cap W => callsIn_wide.2 (AnyM.slices_Sort_string_none Tryz.sort47 p cap W)⟩
theorem mapKeysX_any (mb : Option Nat) (W : World) : Calls Tryz.prog 24 #[.map mb] W fun e w' => e = .returned (.func (.func 48) #[] #[.pointer (some ⟨W.heap.size, 0, none⟩)]) ∧ w' = W.alloc (.cells #[.map mb] 57) :=
  callsIn_wide.1 (AnyZ.keys_in Tryz.keys24 Fence.wide 5 trivial rfl mb W)
set_option maxHeartbeats 1000000 in
theorem sortedKeysX_in (b n : Nat) (D : DataW Value) (w : World) (hown : w.ownsMap Tryz.prog 9 rawX b n D) (hn : n ≤ 8796093022208) :
    CallsIn Fence.wide 5 Tryz.prog 23 #[.func (.func 48) #[] #[.pointer (some ⟨w.heap.size, 0, none⟩)]] (w.alloc (.cells #[.map (some b)] 57)) fun e w' => ∃ (v : Value) (ss : List (List UInt8)), e = .returned v ∧ ss.Perm (strKeys D) ∧
      w'.ownsRow (w.alloc (.cells #[.map (some b)] 57)).heap.size 9 1 v ss.length ((ss.mergeSort (fun x y => decide (x ≤ y))).map encStr) ∧ (v = .slice none 0 0 ↔ ss = []) ∧ Below (w.alloc (.cells #[.map (some b)] 57)).heap.size (w.alloc (.cells #[.map (some b)] 57)) w' := by
  have hbl := hown.lt
  have hsz := hown.size_le
  have hseq : SeqGives Fence.wide 2 Tryz.prog 48 #[.pointer (some ⟨w.heap.size, 0, none⟩)] encStr (fun ss => ss.Perm (strKeys D)) (Maps.size D) (w.alloc (.cells #[.map (some b)] 57)) :=
    AnyZ.keys_gives (ρ := Tryz.keys24_ren) { Tryz.keys24 with } Fence.wide _ trivial rfl (by omega) w.heap.size b n D _ (by simp) (by simp) (by
      obtain ⟨es, clock, hb, Ft, hs, hD⟩ := hown
      exact ⟨es, clock, (Below.heap_alloc _ _ b hbl).trans hb, Ft, hs, hD⟩)
  exact AnyZ.sorted_in Tryz.sorted23 Fence.wide 5 trivial trivial trivial trivial rfl (by omega) (sortsX_in _) (enters_of Tryz.func47 (by kernel_rfl) rfl) 48 #[.pointer (some ⟨w.heap.size, 0, none⟩)] trivial (enters_of Tryz.func48 (by kernel_rfl) rfl) _ _ (by unfold maxLen; omega) (by omega) _ hseq
theorem keys_ofX {w : World} {m N : Nat} {D : DataW Value} (h : w.ownsMap Tryz.prog 9 rawX m N D) : (strKeys D).Nodup ∧ (∀ x, x ∈ strKeys D ↔ Maps.has D (.string x) = true) ∧ (strKeys D).length ≤ N := by
  have hsz := h.size_le
  obtain ⟨es, hD, hpw, _⟩ := h.entries (string_keyed Tryz.underlying9)
  obtain ⟨es', hD', hko⟩ := h.keysOf
  obtain rfl : es = es' := by rw [hD] at hD'; simpa using hD'
  subst hD
  have hk : ∀ q ∈ es, ∃ x, q.1 = .string x := fun q hq => by
    obtain ⟨v, hv⟩ := hko q hq
    obtain ⟨x, _, hx, _⟩ := Maps.keyOf_str Tryz.underlying9 hv
    exact ⟨x, hx⟩
  refine ⟨?_, fun x => ?_, by simpa [strKeys, Maps.size] using hsz⟩
  · refine List.pairwise_map.2 (hpw.imp_of_mem fun {a b} ha hb hne e => hne ?_)
    obtain ⟨x, hx⟩ := hk a ha
    obtain ⟨y, hy⟩ := hk b hb
    rw [hx, hy] at e ⊢
    exact congrArg _ e
  · rw [has_eq, List.any_eq_true]
    show x ∈ es.map (fun q => strOf q.1) ↔ _
    rw [List.mem_map]
    constructor
    · rintro ⟨q, hq, rfl⟩
      obtain ⟨y, hy⟩ := hk q hq
      exact ⟨q, hq, by rw [hy]; simp [Lit.sameKey, strOf]⟩
    · rintro ⟨q, hq, hs⟩
      obtain ⟨y, hy⟩ := hk q hq
      rw [hy] at hs
      exact ⟨q, hq, by rw [hy]; simpa [Lit.sameKey, strOf] using hs⟩
theorem rising_one {α : Type} {R : α → α → Prop} (irr : ∀ a, ¬ R a a) (tr : ∀ a b c, R a b → R b c → R a c) : ∀ (K M : List α), K.Pairwise R → M.Pairwise R → (∀ z, z ∈ K ↔ z ∈ M) → K = M
  | [], [], _, _, _ => rfl
  | [], y :: M, _, _, h => by have := (h y).2 (by simp); simp at this
  | x :: K, [], _, _, h => by have := (h x).1 (by simp); simp at this
  | x :: K, y :: M, hK, hM, h => by
    rw [List.pairwise_cons] at hK hM
    have e : x = y := by
      have h1 := (h x).1 (by simp)
      have h2 := (h y).2 (by simp)
      rcases List.mem_cons.1 h1 with e | h1
      · exact e
      · rcases List.mem_cons.1 h2 with e | h2
        · exact e.symm
        · exact absurd (tr _ _ _ (hK.1 y h2) (hM.1 x h1)) (irr x)
    subst e
    rw [rising_one irr tr K M hK.2 hM.2 fun z => ?_]
    constructor
    · intro hz
      rcases List.mem_cons.1 ((h z).1 (by simp [hz])) with e | h'
      · subst e; exact absurd (hK.1 z hz) (irr z)
      · exact h'
    · intro hz
      rcases List.mem_cons.1 ((h z).2 (by simp [hz])) with e | h'
      · subst e; exact absurd (hM.1 z hz) (irr z)
      · exact h'
theorem keys_sorted {L : List Ex} {ks ss : List (List UInt8)} (ok : ∀ x ∈ L, x.okAll = true) (h1 : ks.Nodup) (h2 : ∀ t, t ∈ ks ↔ ∃ x ∈ L, x.print = t) (hp : ss.Perm ks) : ss.mergeSort (fun x y => decide (x ≤ y)) = (sortE L).map Ex.print := by
  have hnd : (ss.mergeSort (fun x y => decide (x ≤ y))).Nodup := (((List.mergeSort_perm ss _).trans hp).nodup_iff).2 h1
  have tr : ∀ a b c : List UInt8, decide (a ≤ b) = true → decide (b ≤ c) = true → decide (a ≤ c) = true := fun a b c h1 h2 => by simp only [decide_eq_true_eq] at *; exact List.le_trans h1 h2
  have tot : ∀ a b : List UInt8, (decide (a ≤ b) || decide (b ≤ a)) = true := fun a b => by simp only [Bool.or_eq_true, decide_eq_true_eq]; exact List.le_total a b
  obtain ⟨hs1, hs2⟩ := sortE_is ok
  refine rising_one (R := fun a b => a < b) (fun a h => List.lt_irrefl a h) (fun a b c h1 h2 => List.lt_trans h1 h2) _ _ ?_ ?_ fun t => ?_
  · refine ((List.pairwise_mergeSort tr tot ss).and hnd).imp ?_
    rintro a b ⟨h1, h2⟩
    refine Classical.byContradiction fun hn => h2 ?_
    exact List.le_antisymm (by simpa using h1) (List.not_lt.1 (by simpa using hn))
  · refine List.pairwise_map.2 (hs1.imp fun {a b} h => ?_)
    have h' : Op.bytesLess a.print b.print = true := h
    rw [bytesLess_eq] at h'
    simpa using h'
  · rw [((List.mergeSort_perm ss _).trans hp).mem_iff, h2]
    constructor
    · rintro ⟨x, hx, rfl⟩; exact List.mem_map.2 ⟨x, (hs2 x).2 hx, rfl⟩
    · intro h
      obtain ⟨x, hx, rfl⟩ := List.mem_map.1 h
      exact ⟨x, (hs2 x).1 hx, rfl⟩
theorem skeys_any (w : World) (m n b : Nat) (L : List Ex) (h : MapX w m n b L) (hn : n ≤ 8796093022208) :
    Calls Tryz.prog 23 #[.func (.func 48) #[] #[.pointer (some ⟨w.heap.size, 0, none⟩)]] (w.alloc (.cells #[.map (some m)] 57)) fun e w' =>
      (∃ q c, e = .returned (.slice q (sortE L).length c) ∧ StrsA w' w.heap.size w'.heap.size q ((sortE L).map fun x => bsB x.print) ∧ OwnF w' w.heap.size 9 1 (fun x : ByteArray => [Value.string x]) (.slice q (sortE L).length c) ((sortE L).map fun x => bsB x.print)) ∧ Below (w.alloc (.cells #[.map (some m)] 57)).heap.size (w.alloc (.cells #[.map (some m)] 57)) w' := by
  obtain ⟨ok, D, hown, hD1, -⟩ := h
  obtain ⟨k1, k2, k3⟩ := keys_ofX hown
  refine (callsIn_wide.1 (sortedKeysX_in m n D w hown hn)).mono ?_
  rintro e w' ⟨v, ss, rfl, hp, hrow, -, hb⟩
  have hks := keys_sorted (fun x hx => (right_iff8.1 (ok x hx)).1) k1 (fun t => (k2 t).trans (hD1 t)) hp
  have hl : ss.length = (sortE L).length := by rw [← List.length_mergeSort (le := fun x y => decide (x ≤ y)) ss, hks, List.length_map]
  rw [hks, hl, List.map_map] at hrow
  have hO : OwnF w' (w.alloc (.cells #[.map (some m)] 57)).heap.size 9 1 (fun x : ByteArray => [Value.string x]) v ((sortE L).map fun x => bsB x.print) := by
    unfold OwnF
    rw [List.length_map, List.flatMap_map]
    have e : ((sortE L).flatMap fun x => [Value.string (bsB x.print)]) = (sortE L).map (encStr ∘ Ex.print) := by
      rw [← List.map_eq_flatMap]
      rfl
    rw [e]
    exact hrow
  obtain ⟨q, c, hv, -, -, -, hA⟩ := OwnF.arr (cells := fun x : ByteArray => [Value.string x]) (sz := 1) (fun _ => rfl) hO
  subst hv
  rw [List.length_map] at hO ⊢
  exact ⟨⟨q, c, rfl, ArrA.imp (hA.wide (by simp) (Nat.le_refl _)) fun _ _ _ _ _ h => h 0 _ rfl, hO.base_le (by simp)⟩, hb⟩
open Go.Lib
def rkN (set : Nat) (rel : Nat) : Nat := ((List.range rel).filter fun i => set.testBit i).length
theorem rkN_le (set rel : Nat) : rkN set rel ≤ rel := by
  unfold rkN
  refine Nat.le_trans (List.length_filter_le _ _) ?_
  simp
mutual
def Ex.rank (set : Nat) : Ex → Ex
  | .mk op v rel col n s l => .mk op v (if op = 2 then (rkN set rel.toNat : Int) else rel) col n s (rankL set l)
def rankL (set : Nat) : List Ex → List Ex
  | [] => []
  | x :: r => x.rank set :: rankL set r
end
theorem rankL_map (set : Nat) : ∀ l : List Ex, rankL set l = l.map (Ex.rank set)
  | [] => by rw [rankL]; rfl
  | x :: r => by rw [rankL, rankL_map set r]; rfl
theorem head_rank (set : Nat) {op : Int} {v : Val} {rel col n : Int} {s : ByteArray} {len : Nat} (h : headOk op v rel col n s len = true) : headOk op v (if op = 2 then (rkN set rel.toNat : Int) else rel) col n s len = true := by
  by_cases h2 : op = 2
  · subst h2
    have h1 := rel_ok h rfl
    have h3 := rkN_le set rel.toNat
    rw [if_pos rfl]
    unfold headOk at h ⊢
    simp only [Bool.and_eq_true, beq_iff_eq, Bool.or_eq_true, if_true, decide_eq_true_eq] at h ⊢
    obtain ⟨⟨h4, h5⟩, h6⟩ := h
    exact ⟨⟨h4, ⟨⟨by omega, by omega⟩, h5.1.2⟩, h5.2⟩, h6⟩
  · rw [if_neg h2]; exact h
mutual
theorem rank_ok (set : Nat) : ∀ x : Ex, x.okAll = true → (x.rank set).okAll = true ∧ (x.rank set).deep = x.deep ∧ (x.rank set).count = x.count
  | .mk op v rel col n s l, h => by
    rw [Ex.okAll, Bool.and_eq_true] at h
    obtain ⟨a0, a1, a2, a3⟩ := rankL_ok set l h.2
    rw [Ex.rank]
    refine ⟨?_, ?_, ?_⟩
    · rw [Ex.okAll, a0, a1, head_rank set h.1]; rfl
    · rw [Ex.deep, Ex.deep, a2]
    · rw [Ex.count, Ex.count, a3]
theorem rankL_ok (set : Nat) : ∀ l : List Ex, okL l = true → (rankL set l).length = l.length ∧ okL (rankL set l) = true ∧ deepL (rankL set l) = deepL l ∧ countL (rankL set l) = countL l
  | [], _ => by rw [rankL]; exact ⟨rfl, rfl, rfl, rfl⟩
  | x :: r, h => by
    rw [okL, Bool.and_eq_true] at h
    obtain ⟨h1, h2, h3⟩ := rank_ok set x h.1
    obtain ⟨a0, a1, a2, a3⟩ := rankL_ok set r h.2
    rw [rankL]
    refine ⟨by simp [a0], ?_, ?_, ?_⟩
    · rw [okL, h1, a1]; rfl
    · rw [deepL, deepL, h2, a2]
    · rw [countL, countL, h3, a3]
end
theorem rank_right (set : Nat) {x : Ex} (h : rightE x = true) : rightE (x.rank set) = true := by
  obtain ⟨h1, h2, h3⟩ := right_iff8.1 h
  obtain ⟨a, b, c⟩ := rank_ok set x h1
  exact right_iff8.2 ⟨a, by omega, by omega⟩
def inSet (set : Int) (x : Ex) : Bool := decide (0 ≤ set) && decide (tablesE x ≠ 0) && decide (tablesE x &&& set.toNat = tablesE x)
def withinE (set : Int) (L : List Ex) : List Nat := (List.range L.length).filter fun i => inSet set (L.getD i (.mk 0 zeroVal 0 0 0 ⟨#[]⟩ []))
def rankedE (set : Int) (L : List Ex) : List Ex := (L.filter (inSet set)).map (Ex.rank set.toNat)
theorem filter_snoc {L : List Ex} {i : Nat} {x : Ex} (p : Ex → Bool) (h : L[i]? = some x) : (L.take (i + 1)).filter p = (L.take i).filter p ++ (if p x then [x] else []) := by
  rw [take_snoc h, List.filter_append]
  cases hp : p x <;> simp [hp]
theorem within_snoc (set : Int) (L : List Ex) (i : Nat) (h : i < L.length) : ((List.range (i + 1)).filter fun i => inSet set (L.getD i (.mk 0 zeroVal 0 0 0 ⟨#[]⟩ []))) = ((List.range i).filter fun i => inSet set (L.getD i (.mk 0 zeroVal 0 0 0 ⟨#[]⟩ []))) ++ (if inSet set (L[i]'h) then [i] else []) := by
  rw [List.range_succ, List.filter_append]
  have e : L.getD i (.mk 0 zeroVal 0 0 0 ⟨#[]⟩ []) = L[i]'h := by rw [List.getD_eq_getElem?_getD, List.getElem?_eq_getElem h]; rfl
  congr 1
  cases hp : inSet set (L[i]'h)
  · rw [List.filter_cons, e, hp]; rfl
  · rw [List.filter_cons, e, hp]; rfl
theorem within_at (set : Int) (L : List Ex) : ∀ (m : Nat), m ≤ L.length → (((List.range m).filter fun i => inSet set (L.getD i (.mk 0 zeroVal 0 0 0 ⟨#[]⟩ []))).map fun i => L.getD i (.mk 0 zeroVal 0 0 0 ⟨#[]⟩ [])) = (L.take m).filter (inSet set)
  | 0, _ => by simp
  | m + 1, h => by
    have hm : m < L.length := by omega
    rw [within_snoc set L m hm, List.map_append, within_at set L m (by omega), filter_snoc (inSet set) (List.getElem?_eq_getElem hm)]
    congr 1
    have e : L.getD m (.mk 0 zeroVal 0 0 0 ⟨#[]⟩ []) = L[m]'hm := by rw [List.getD_eq_getElem?_getD, List.getElem?_eq_getElem hm]; rfl
    cases hp : inSet set (L[m]'hm)
    · rfl
    · show [L.getD m (.mk 0 zeroVal 0 0 0 ⟨#[]⟩ [])] = [_]; rw [e]
theorem within_is (set : Int) (L : List Ex) : ((withinE set L).map fun i => (L.getD i (.mk 0 zeroVal 0 0 0 ⟨#[]⟩ [])).rank set.toNat) = rankedE set L := by
  have h := within_at set L L.length (Nat.le_refl _)
  rw [List.take_length] at h
  unfold withinE rankedE
  rw [← h, List.map_map]
  rfl
theorem within_lt (set : Int) (L : List Ex) : ∀ i ∈ withinE set L, i < L.length := fun i hi => by
  unfold withinE at hi
  have := (List.mem_filter.1 hi).1
  simpa using this
theorem inSet_right {set : Int} {x : Ex} (h : inSet set x = true) : rightE x = true := by
  unfold inSet tablesE at h
  cases hr : rightE x
  · rw [hr] at h; simp at h
  · rfl
theorem ranked_right (set : Int) (L : List Ex) : (rankedE set L).all rightE = true := List.all_eq_true.2 fun y hy => by
  obtain ⟨x, hx, rfl⟩ := List.mem_map.1 hy
  exact rank_right _ (inSet_right (List.mem_filter.1 hx).2)
def tabsT (set : Nat) : Nat → List Int → Bs
  | _, [] => []
  | i, t :: r => (if set.testBit i then Lib.itoa t ++ [32] else []) ++ tabsT set (i + 1) r
def textsT : List Ex → Bs
  | [] => []
  | x :: r => x.print ++ (59 :: textsT r)
def partE (tabs : List Int) (core : Int) (L : List Ex) (set : Int) : Bool :=
  decide (1 ≤ core) && decide (core ≤ 4) && decide (core ≤ tabs.length) && decide (1 ≤ set) && decide (set < 2 ^ core.toNat) && L.all rightE
def ofE (tabs : List Int) (core : Int) (L : List Ex) (set : Int) : Bs × Int :=
  if partE tabs core L set = true then (83 :: (tabsT set.toNat 0 (tabs.take core.toNat) ++ textsT (sortE ((rankedE set L).map Ex.norm))), 0) else ([], 1)
open Go.RowKit Go.Maps Go.ChangeShapes Go.Deep
set_option maxRecDepth 100000
theorem andnot_zero (x y : BitVec 64) : x &&& ~~~y = 0#64 ↔ x &&& y = x := by
  constructor
  · intro h
    refine BitVec.eq_of_getLsbD_eq fun i hi => ?_
    have h1 := congrArg (fun z : BitVec 64 => z.getLsbD i) h
    simp [hi] at h1 ⊢
    exact h1
  · intro h
    refine BitVec.eq_of_getLsbD_eq fun i hi => ?_
    have h1 := congrArg (fun z : BitVec 64 => z.getLsbD i) h
    simp [hi] at h1 ⊢
    exact h1
theorem bits_andnot {t S : Nat} (ht : t < 65536) (hS : S < 9223372036854775808) : (bits .andNot .i64 (t : Int) (S : Int) == 0) = decide (t &&& S = t) := by
  have key : bits .andNot .i64 (t : Int) (S : Int) = IntKind.wrap .i64 ((BitVec.ofNat 64 t &&& ~~~ BitVec.ofNat 64 S).toNat : Int) := by
    change IntKind.wrap .i64 ((BitVec.ofInt 64 (t : Int) &&& ~~~ BitVec.ofInt 64 (S : Int)).toNat : Int) = _
    rw [BitVec.ofInt_natCast, BitVec.ofInt_natCast]
  have hle : (BitVec.ofNat 64 t &&& ~~~ BitVec.ofNat 64 S).toNat ≤ t := by
    rw [BitVec.toNat_and]
    refine Nat.le_trans Nat.and_le_left ?_
    rw [BitVec.toNat_ofNat]
    exact Nat.mod_le _ _
  have hz : (BitVec.ofNat 64 t &&& ~~~ BitVec.ofNat 64 S).toNat = 0 ↔ t &&& S = t := by
    rw [show (BitVec.ofNat 64 t &&& ~~~ BitVec.ofNat 64 S).toNat = 0 ↔ BitVec.ofNat 64 t &&& ~~~ BitVec.ofNat 64 S = 0#64 from ⟨fun h => BitVec.eq_of_toNat_eq (by rw [h]; rfl), fun h => by rw [h]; rfl⟩, andnot_zero]
    rw [← BitVec.toNat_inj, BitVec.toNat_and, BitVec.toNat_ofNat, BitVec.toNat_ofNat, Nat.mod_eq_of_lt (by omega), Nat.mod_eq_of_lt (by omega)]
  rw [key, IntKind.wrap_i64, Bool.eq_iff_iff, beq_iff_eq, decide_eq_true_eq, ← hz]
  try unfold wrap64
  omega
abbrev nCell (z : Int) : List Value := [.int .i64 z]
theorem nCell_len (z : Int) : (nCell z).length = 1 := rfl
theorem nCell_one (z : Int) (u : Value) (h : u ∈ nCell z) : u.oneCell' = true := by simp [nCell] at h; subst h; rfl
theorem Tryz.infoIntN : (Tryz.prog.info? 3).map (fun i => (i.zero, i.size, i.bytes)) = some (some (.int .i64 0), 1, 8) := by kernel_rfl
abbrev OwnN (w : World) (b : Nat) (v : Value) (l : List Int) : Prop := OwnF w b 3 1 nCell v l
set_option maxHeartbeats 16000000 in
theorem dwithin_any (L : List Ex) (q : Option Addr) (c : Nat) (set : Int) (w : World) (hL : ExL w q 0 L) (hn : L.length * 104 ≤ 140737488355328) (hG : GE w) (hs : inR set = true) :
    Calls Tryz.prog 44 #[.slice q L.length c, .int .i64 set] w fun e w' => (∃ v, e = .returned v ∧ OwnN w' w.heap.size v ((withinE set L).map fun i : Nat => (i : Int))) ∧ Below w.heap.size w w' := by
  have HL := Lib.hid hL
  have HG := Lib.hid hG
  obtain ⟨len, hlen⟩ : ∃ len, len = L.length := ⟨_, rfl⟩
  rw [← hlen] at hn ⊢
  have HLEN := Lib.hid hlen
  clear hL hG hlen
  by_cases h0 : set < 0
  · have HE := Lib.hid (show withinE set L = [] by
      unfold withinE
      refine List.filter_eq_nil_iff.2 fun i _ => ?_
      unfold inSet
      rw [decide_eq_false (by omega)]
      simp)
    go_enter Tryz.func44, Tryz.ntmps44
    go_wp2_with fail
    refine bodyPost_ret (v := .slice none 0 0) (by simp [results, Tryz.results44, go_sem]) rfl ⟨⟨_, rfl, ?_⟩, Below.refl _ _⟩
    rw [HE.out]
    exact OwnF.nil _ _ _
  · obtain ⟨S, hS⟩ : ∃ S : Nat, set = S := ⟨set.toNat, by omega⟩
    subst hS
    obtain ⟨hs1, hs2⟩ := inR_iff.1 hs
    have hS63 : S < 9223372036854775808 := by omega
    clear hs hs1 hs2 h0
    go_enter Tryz.func44, Tryz.ntmps44
    go_wp2_with fail
    go_loopw [5, 13] (fun v5 v13 wr => ∃ i : Nat, v13 = .int .i64 i ∧ i ≤ len ∧ Hid (OwnN wr w.heap.size v5 (((List.range i).filter fun i => inSet S (L.getD i (.mk 0 zeroVal 0 0 0 ⟨#[]⟩ []))).map fun i : Nat => (i : Int)) ∧ Below w.heap.size w wr)) (fun _ v13 _ => ((len : Int) - intOf v13).toNat)
    case atStart => exact ⟨0, rfl, Nat.zero_le _, OwnF.nil _ _ _, Below.refl _ _⟩
    case round =>
      obtain ⟨i, rfl, hi, HH⟩ := hrel
      obtain ⟨V, hV⟩ : ∃ V, V = wr := ⟨_, rfl⟩
      rw [← hV] at HH
      rw [← hV]
      clear hV
      have HO := Lib.hid HH.out.1
      have HB := Lib.hid HH.out.2
      clear HH
      by_cases hlt : i < len
      · have hiL : i < L.length := by rw [← HLEN.out]; exact hlt
        have hy : L[i]? = some (L[i]'hiL) := List.getElem?_eq_getElem hiL
        have HT := Lib.hid (within_snoc S L i hiL)
        obtain ⟨y, hye⟩ : ∃ y, y = L[i]'hiL := ⟨_, rfl⟩
        rw [← hye] at hy HT
        have hl_ := ExL.at_ (ExL.ext HB.out _ _ _ HL.out) hy
        obtain ⟨g0, off0, cs0, hq0, hg0, hx0, hcell⟩ := hl_
        subst hq0
        have HX0 := Lib.hid hx0
        obtain ⟨M, hM⟩ : ∃ M, M = ((List.range i).filter fun i => inSet S (L.getD i (.mk 0 zeroVal 0 0 0 ⟨#[]⟩ []))) := ⟨_, rfl⟩
        rw [← hM] at HO HT
        have HML := Lib.hid (show M.length ≤ i by rw [hM]; exact Nat.le_trans (List.length_filter_le _ _) (by simp))
        clear hy hM hye hiL
        obtain ⟨op1, v1, rel1, col1, n1, s1, l1⟩ := y
        rw [ExM.iff] at hx0
        obtain ⟨-, qq0, cc0, rfl, -, -⟩ := hx0
        have f0 := hcell 0 _ rfl
        have f1 := hcell 1 _ rfl
        have f2 := hcell 2 _ rfl
        have f3 := hcell 3 _ rfl
        have f4 := hcell 4 _ rfl
        have f5 := hcell 5 _ rfl
        have f6 := hcell 6 _ rfl
        have f7 := hcell 7 _ rfl
        have f8 := hcell 8 _ rfl
        simp only [Nat.zero_add, Nat.add_zero] at f0 f1 f2 f3 f4 f5 f6 f7 f8
        clear hcell
        go_wp2_with fail
        have B1 : Below V.heap.size V (V.alloc (.cells (exCells op1 v1 rel1 col1 n1 s1 qq0 l1.length cc0).toArray 26)) := ext_alloc (ext_refl _) _
        refine (dtables_any _ _ (V.alloc (.cells (exCells op1 v1 rel1 col1 n1 s1 qq0 l1.length cc0).toArray 26)) (ExM.ext B1 _ _ HX0.out) (HG.out.on (HB.out.trans (B1.mono HB.out.size)))).mono ?_
        rintro e X ⟨rfl, hbX⟩
        have HBX := Lib.hid (B1.trans (hbX.mono B1.size))
        have HIN := Lib.hid (show inSet S (.mk op1 v1 rel1 col1 n1 s1 l1) = (decide (tablesE (.mk op1 v1 rel1 col1 n1 s1 l1) ≠ 0) && decide (tablesE (.mk op1 v1 rel1 col1 n1 s1 l1) &&& S = tablesE (.mk op1 v1 rel1 col1 n1 s1 l1))) by unfold inSet; simp)
        have hTlt : tablesE (.mk op1 v1 rel1 col1 n1 s1 l1) < 65536 := by
          unfold tablesE
          cases hr : rightE (.mk op1 v1 rel1 col1 n1 s1 l1)
          · show 0 < 65536; decide
          · exact tabs_lt _ (right_iff8.1 hr).1
        obtain ⟨T, hTe⟩ : ∃ T, T = tablesE (.mk op1 v1 rel1 col1 n1 s1 l1) := ⟨_, rfl⟩
        rw [← hTe] at HIN hTlt ⊢
        have hAN := bits_andnot (S := S) hTlt hS63
        obtain ⟨Z, hZ⟩ : ∃ Z, bits .andNot .i64 (T : Int) (S : Int) = Z := ⟨_, rfl⟩
        rw [hZ] at hAN
        clear hTe B1 hbX f0 f1 f2 f3 f4 f5 f6 f7 f8
        have hll : i + 1 ≤ 1353245080340 := by omega
        cases hin : inSet S (.mk op1 v1 rel1 col1 n1 s1 l1) with
        | true =>
          have h1 := HIN.out
          rw [hin] at h1
          rw [eq_comm, Bool.and_eq_true, decide_eq_true_eq, decide_eq_true_eq] at h1
          have b1 : ((T : Int) != 0) = true := by rw [bne_iff_ne]; omega
          rw [decide_eq_true h1.2] at hAN
          rw [hin, if_pos rfl] at HT
          have HO2 := Lib.hid ((HO.out.later HBX.out).later (ext_alloc (ext_refl X) (.cells #[.int .i64 (i : Int)] 3)))
          have B2 := Lib.hid (HBX.out.trans ((ext_alloc (ext_refl X) (.cells #[.int .i64 (i : Int)] 3)).mono HBX.out.size))
          have hml : (M.map fun i : Nat => (i : Int)).length ≤ i := by rw [List.length_map]; exact HML.out
          obtain ⟨K, hK⟩ : ∃ K, K = M.map fun i : Nat => (i : Int) := ⟨_, rfl⟩
          rw [← hK] at HO2 hml
          have HK := Lib.hid hK
          clear h1 hin hK
          go_wp2_with (at_builtin; refine wp_append_flat rfl _ _ 40 3 rfl Tryz.underlying40 (.int .i64 0) 8 Tryz.infoIntN rfl (by decide) nCell_len nCell_one w.heap.size _ K rfl HO2.out _ 1 1 [(i : Int)] rfl rfl 0 (X.heap.size + 1) (one_block nCell_len 3 #[.int .i64 (i : Int)] (i : Int) rfl _ rfl) ?k1 ?k2 ?k3 ?_)
          case k1 => simp only [List.length_cons, List.length_nil]; unfold maxLen; omega
          case k2 => simp only [List.length_cons, List.length_nil]; omega
          case k3 => exact Nat.le_trans HB.out.size B2.out.size
          intro v' Y hO hbY hoY
          have HN := Lib.hid (show OwnN Y w.heap.size v' (((List.range (i + 1)).filter fun i => inSet S (L.getD i (.mk 0 zeroVal 0 0 0 ⟨#[]⟩ []))).map fun i : Nat => (i : Int)) by rw [HT.out, List.map_append, ← HK.out]; exact hO)
          have HBY := Lib.hid ((HB.out.trans (B2.out.mono HB.out.size)).trans hbY)
          clear hO hbY hoY HO HO2 B2 HBX HX0 HIN hml HK
          go_wp2_with fail
          go_roundw
          case rel => exact ⟨i + 1, by go_num, hlt, HN.out, HBY.out⟩
          case measure => simp [intOf] <;> omega
        | false =>
          have h1 := HIN.out
          rw [hin] at h1
          rw [hin, if_neg (by decide), List.append_nil] at HT
          have HN := Lib.hid (show OwnN X w.heap.size u5 (((List.range (i + 1)).filter fun i => inSet S (L.getD i (.mk 0 zeroVal 0 0 0 ⟨#[]⟩ []))).map fun i : Nat => (i : Int)) by rw [HT.out]; exact HO.out.later HBX.out)
          have HBY := Lib.hid (HB.out.trans (HBX.out.mono HB.out.size))
          by_cases h0 : T = 0
          · have b1 : ((T : Int) != 0) = false := by rw [h0]; rfl
            clear h1 hin HO HX0 HIN hAN hZ h0
            go_wp2_with fail
            go_roundw
            case rel => exact ⟨i + 1, by go_num, hlt, HN.out, HBY.out⟩
            case measure => simp [intOf] <;> omega
          · have b1 : ((T : Int) != 0) = true := by rw [bne_iff_ne]; omega
            rw [decide_eq_true h0, Bool.true_and] at h1
            rw [← h1] at hAN
            clear h1 hin HO HX0 HIN h0
            go_wp2_with fail
            go_roundw
            case rel => exact ⟨i + 1, by go_num, hlt, HN.out, HBY.out⟩
            case measure => simp [intOf] <;> omega
      · have HE := Lib.hid (show ((List.range i).filter fun i => inSet S (L.getD i (.mk 0 zeroVal 0 0 0 ⟨#[]⟩ []))) = withinE S L by rw [show i = L.length by rw [← HLEN.out]; omega]; rfl)
        rw [HE.out] at HO
        go_wp2_with fail
        refine bodyPost_ret (v := u5) (by simp [results, Tryz.results44, go_sem]) rfl ⟨⟨_, rfl, HO.out⟩, HB.out⟩
open Go.RowKit Go.Maps Go.ChangeShapes Go.Deep
set_option maxRecDepth 100000
structure Sq where
  q : Option Addr
  n : Nat
  c : Nat
structure RawK where
  t : Sq
  core : Int
  k : Sq
  on : Sq
  co : Sq
  af : Sq
  un : Sq
  g : Bool
  ke : Sq
  it : Sq
  d : Bool
abbrev RawK.cells (r : RawK) : List Value := [.slice r.t.q r.t.n r.t.c, .int .i64 r.core, .slice r.k.q r.k.n r.k.c, .slice r.on.q r.on.n r.on.c, .slice r.co.q r.co.n r.co.c, .slice r.af.q r.af.n r.af.c, .slice r.un.q r.un.n r.un.c, .bool r.g, .slice r.ke.q r.ke.n r.ke.c, .slice r.it.q r.it.n r.it.c, .bool r.d]
structure BlkIn (w : World) (r : RawK) (tabs : List Int) (L : List Ex) : Prop where
  tn : r.t.n = tabs.length
  tc : r.t.n ≤ r.t.c ∧ r.t.c ≤ 9223372036854775807
  t : IntsA w 0 w.heap.size r.t.q tabs
  cn : r.co.n = L.length
  cc : r.co.n ≤ r.co.c ∧ r.co.c ≤ 9223372036854775807
  co : ExL w r.co.q 0 L
  few : L.length * 104 ≤ 140737488355328
theorem BlkIn.on {w w' : World} {r : RawK} {tabs : List Int} {L : List Ex} (h : BlkIn w r tabs L) (hb : Below w.heap.size w w') : BlkIn w' r tabs L := by
  obtain ⟨h1, h2, h3, h4, h5, h6, h7⟩ := h
  refine ⟨h1, h2, fun i hi => ?_, h4, h5, ExL.ext hb _ _ _ h6, h7⟩
  obtain ⟨g, off, e, a1, a2, a3⟩ := h3 i hi
  exact ⟨g, off, e, a1, Nat.lt_of_lt_of_le a2 hb.size, fun j x hx => (hb.cell (p := ⟨g, _, none⟩) a2).trans (a3 j x hx)⟩
structure KB (W : World) (g : Nat) (cs : List Value) : Prop where
  lt : g < W.heap.size
  c : ∀ k u, cs[k]? = some u → W.cell? ⟨g, k, none⟩ = some u
theorem KB.on {W W' : World} {g : Nat} {cs : List Value} (h : KB W g cs) (hb : Below W.heap.size W W') : KB W' g cs := ⟨Nat.lt_of_lt_of_le h.lt hb.size, fun k u hu => (hb.cell (p := ⟨g, k, none⟩) h.lt).trans (h.c k u hu)⟩
theorem KB.new (W : World) (cs : List Value) (T : TypeId) : KB (W.alloc (.cells cs.toArray T)) W.heap.size cs := ⟨by simp, fun k u hu => by rw [Lib.cell_of_heap (heap_alloc_new W _), List.getElem?_toArray]; exact hu⟩
set_option maxHeartbeats 16000000 in
theorem isPart_any (r : RawK) (tabs : List Int) (L : List Ex) (set : Int) (w : World) (h : BlkIn w r tabs L) (hG : GE w) (hs : inR set = true) (hci : inR r.core = true) :
    Calls Tryz.prog 19 #[.agg r.cells.toArray, .int .i64 set] w fun e w' => e = .returned (.bool (partE tabs r.core L set)) ∧ Below w.heap.size w w' := by
  have H := Lib.hid h
  have HG := Lib.hid hG
  have K0 := KB.new w r.cells 43
  have B0 : Below w.heap.size w (w.alloc (.cells r.cells.toArray 43)) := ext_alloc (ext_refl _) _
  obtain ⟨⟨tq, tn, tc⟩, core, ⟨kq, kn, kc⟩, ⟨oq, on, oc⟩, ⟨cq, cn, cc⟩, ⟨aq, an, ac⟩, ⟨uq, un, uc⟩, gr, ⟨eq, en, ec⟩, ⟨iq, in_, ic⟩, di⟩ := r
  have htn : tn = tabs.length := h.tn
  obtain ⟨hs1, hs2⟩ := inR_iff.1 hs
  obtain ⟨hc1, hc2⟩ := inR_iff.1 hci
  simp only at hc1 hc2
  have HTN := Lib.hid htn
  obtain ⟨W, hW⟩ : ∃ W, W = w.alloc (.cells (RawK.cells ⟨⟨tq, tn, tc⟩, core, ⟨kq, kn, kc⟩, ⟨oq, on, oc⟩, ⟨cq, cn, cc⟩, ⟨aq, an, ac⟩, ⟨uq, un, uc⟩, gr, ⟨eq, en, ec⟩, ⟨iq, in_, ic⟩, di⟩).toArray 43) := ⟨_, rfl⟩
  rw [← hW] at K0 B0
  have HW := Lib.hid hW
  clear hW hG hs hci htn
  go_enter Tryz.func19, Tryz.ntmps19
  go_upto_region 1 with fail
  change Code.wp _ _ _ _ (w.alloc (.cells (RawK.cells ⟨⟨tq, tn, tc⟩, core, ⟨kq, kn, kc⟩, ⟨oq, on, oc⟩, ⟨cq, cn, cc⟩, ⟨aq, an, ac⟩, ⟨uq, un, uc⟩, gr, ⟨eq, en, ec⟩, ⟨iq, in_, ic⟩, di⟩).toArray 43))
  rw [← HW.out]
  clear HW
  obtain ⟨g, hg⟩ : ∃ g, g = w.heap.size := ⟨_, rfl⟩
  rw [← hg] at K0 ⊢
  have HB := Lib.hid B0
  have HK := Lib.hid K0
  obtain ⟨lt, kc_⟩ := K0
  have c0 := kc_ 0 _ rfl
  have c1 := kc_ 1 _ rfl
  have c4 := kc_ 4 _ rfl
  clear kc_ hg B0 h
  by_cases q1 : core < 1
  · have HP := Lib.hid (show partE tabs core L set = false by unfold partE; rw [decide_eq_false (by omega)]; simp)
    go_wp2_with fail
    refine bodyPost_ret (v := .bool false) (by simp [results, Tryz.results19, go_sem]) rfl ⟨by rw [HP.out], HB.out⟩
  by_cases q2 : 4 < core
  · have HP := Lib.hid (show partE tabs core L set = false by unfold partE; rw [decide_eq_false (show ¬ core ≤ 4 by omega)]; simp)
    go_wp2_with fail
    refine bodyPost_ret (v := .bool false) (by simp [results, Tryz.results19, go_sem]) rfl ⟨by rw [HP.out], HB.out⟩
  by_cases q3 : (tn : Int) < core
  · have HP := Lib.hid (show partE tabs core L set = false by unfold partE; rw [decide_eq_false (show ¬ core ≤ tabs.length by have := HTN.out; omega)]; simp)
    go_wp2_with fail
    refine bodyPost_ret (v := .bool false) (by simp [results, Tryz.results19, go_sem]) rfl ⟨by rw [HP.out], HB.out⟩
  by_cases q4 : set < 1
  · have HP := Lib.hid (show partE tabs core L set = false by unfold partE; rw [decide_eq_false (show ¬ 1 ≤ set by omega)]; simp)
    go_wp2_with fail
    refine bodyPost_ret (v := .bool false) (by simp [results, Tryz.results19, go_sem]) rfl ⟨by rw [HP.out], HB.out⟩
  obtain ⟨k, hk⟩ : ∃ k : Nat, core = k := ⟨core.toNat, by omega⟩
  subst hk
  obtain ⟨P, hP⟩ : ∃ P : Int, P = 2 ^ k := ⟨_, rfl⟩
  have hPw : wrap64 (2 ^ k) = P := by have := pow_in (rel := (k : Int)) (by omega); rw [hP]; simpa using this
  have HPE := Lib.hid (show (2 : Int) ^ (k : Int).toNat = P by rw [hP]; rfl)
  clear hP
  by_cases q5 : P ≤ set
  · have HP := Lib.hid (show partE tabs k L set = false by unfold partE; rw [HPE.out, decide_eq_false (show ¬ set < P by omega)]; simp)
    go_wp2_with fail
    refine bodyPost_ret (v := .bool false) (by simp [results, Tryz.results19, go_sem]) rfl ⟨by rw [HP.out], HB.out⟩
  have HPA := Lib.hid (show partE tabs k L set = L.all rightE by
    unfold partE
    rw [HPE.out, decide_eq_true (show (1 : Int) ≤ k by omega), decide_eq_true (show (k : Int) ≤ 4 by omega), decide_eq_true (show (k : Int) ≤ tabs.length by have := HTN.out; omega), decide_eq_true (show 1 ≤ set by omega), decide_eq_true (show set < P by omega)]
    simp)
  have HL := Lib.hid (show ExL W cq 0 L from ExL.ext HB.out _ _ _ H.out.co)
  have HCN := Lib.hid (show cn = L.length from H.out.cn)
  have hfew : cn ≤ 1353245080340 := by have h1 := H.out.few; have h2 := HCN.out; omega
  go_wp2_with fail
  clear c0 c1 c4 lt hPw q1 q2 q3 q4 q5 hc1 hc2 hs1 hs2
  go_loopw [37] (fun v37 wr => ∃ i : Nat, v37 = .int .i64 i ∧ i ≤ cn ∧ Hid (Below w.heap.size w wr ∧ Below W.heap.size W wr ∧ (L.take i).all rightE = true)) (fun v37 _ => ((cn : Int) - intOf v37).toNat)
  case atStart => exact ⟨0, rfl, Nat.zero_le _, HB.out, Below.refl _ _, rfl⟩
  case round =>
    obtain ⟨i, rfl, hi, HH⟩ := hrel
    obtain ⟨V, hV⟩ : ∃ V, V = wr := ⟨_, rfl⟩
    rw [← hV] at HH
    rw [← hV]
    clear hV
    have HBV := Lib.hid HH.out.1
    have HBW := Lib.hid HH.out.2.1
    have HA := Lib.hid HH.out.2.2
    clear HH
    by_cases hlt : i < cn
    · obtain ⟨y, hy⟩ : ∃ y, L[i]? = some y := ⟨_, List.getElem?_eq_getElem (by rw [← HCN.out]; exact hlt)⟩
      have hl_ := ExL.at_ (ExL.ext HBW.out _ _ _ HL.out) hy
      obtain ⟨g0, off0, cs0, hq0, hg0, hx0, hcell⟩ := hl_
      subst hq0
      have HX0 := Lib.hid hx0
      have HTA := Lib.hid (show (L.take (i + 1)).all rightE = rightE y by rw [take_snoc hy, List.all_append, HA.out]; simp)
      have HYM := Lib.hid (List.mem_of_getElem? hy)
      clear hy
      obtain ⟨op1, v1, rel1, col1, n1, s1, l1⟩ := y
      rw [ExM.iff] at hx0
      obtain ⟨-, qq0, cc0, rfl, -, -⟩ := hx0
      have f0 := hcell 0 _ rfl
      have f1 := hcell 1 _ rfl
      have f2 := hcell 2 _ rfl
      have f3 := hcell 3 _ rfl
      have f4 := hcell 4 _ rfl
      have f5 := hcell 5 _ rfl
      have f6 := hcell 6 _ rfl
      have f7 := hcell 7 _ rfl
      have f8 := hcell 8 _ rfl
      simp only [Nat.zero_add, Nat.add_zero] at f0 f1 f2 f3 f4 f5 f6 f7 f8
      clear hcell
      go_wp2_with fail
      have B1 : Below V.heap.size V (V.alloc (.cells (exCells op1 v1 rel1 col1 n1 s1 qq0 l1.length cc0).toArray 26)) := ext_alloc (ext_refl _) _
      refine (dright_any _ _ (V.alloc (.cells (exCells op1 v1 rel1 col1 n1 s1 qq0 l1.length cc0).toArray 26)) (ExM.ext B1 _ _ HX0.out) (HG.out.on (HBV.out.trans (B1.mono HBV.out.size)))).mono ?_
      rintro e X ⟨rfl, hbX⟩
      have HBX := Lib.hid (HBV.out.trans ((B1.trans (hbX.mono B1.size)).mono HBV.out.size))
      have HBWX := Lib.hid (HBW.out.trans ((B1.trans (hbX.mono B1.size)).mono HBW.out.size))
      clear B1 hbX f0 f1 f2 f3 f4 f5 f6 f7 f8 HX0
      cases hs : rightE (.mk op1 v1 rel1 col1 n1 s1 l1) with
      | false =>
        have HF := Lib.hid (show L.all rightE = false by rw [Bool.eq_false_iff]; intro h; have := List.all_eq_true.1 h _ HYM.out; rw [hs] at this; cases this)
        clear hs
        go_wp2_with fail
        refine bodyPost_ret (v := .bool false) (by simp [results, Tryz.results19, go_sem]) rfl ⟨by rw [HPA.out, HF.out], HBX.out⟩
      | true =>
        rw [hs] at HTA
        clear hs
        go_wp2_with fail
        go_roundw
        case rel => exact ⟨i + 1, by go_num, hlt, HBX.out, HBWX.out, HTA.out⟩
        case measure => simp [intOf] <;> omega
    · have HE := Lib.hid (show L.take i = L by rw [show i = L.length by rw [← HCN.out]; omega, List.take_length])
      rw [HE.out] at HA
      go_wp2_with fail
      refine bodyPost_ret (v := .bool true) (by simp [results, Tryz.results19, go_sem]) rfl ⟨by rw [HPA.out, HA.out], HBV.out⟩
open Go.RowKit Go.Maps Go.ChangeShapes Go.Deep
set_option maxRecDepth 100000
set_option maxHeartbeats 4000000 in
theorem ones64_any (k : Nat) (hk : k < 16) (w : World) : Calls Tryz.prog 61 #[.int .u64 (k : Int)] w fun e w' => e = .returned (.int .i64 (rkN k 4 : Int)) ∧ Below w.heap.size w w' := by
  have hc : k = 0 ∨ k = 1 ∨ k = 2 ∨ k = 3 ∨ k = 4 ∨ k = 5 ∨ k = 6 ∨ k = 7 ∨ k = 8 ∨ k = 9 ∨ k = 10 ∨ k = 11 ∨ k = 12 ∨ k = 13 ∨ k = 14 ∨ k = 15 := by omega
  clear hk
  rcases hc with rfl | rfl | rfl | rfl | rfl | rfl | rfl | rfl | rfl | rfl | rfl | rfl | rfl | rfl | rfl | rfl
  all_goals
    go_enter Tryz.func61, Tryz.ntmps61
    go_wp2_with fail
    go_ret
    exact ⟨by kernel_rfl, Below.refl _ _⟩
set_option maxHeartbeats 4000000 in
theorem ones_any (k : Nat) (hk : k < 16) (w : World) : Calls Tryz.prog 43 #[.int .u64 (k : Int)] w fun e w' => e = .returned (.int .i64 (rkN k 4 : Int)) ∧ Below w.heap.size w w' := by
  go_enter Tryz.func43, Tryz.ntmps43
  go_wp2_with fail
  refine (ones64_any k hk w).mono ?_
  rintro e X ⟨rfl, hb⟩
  go_wp2_with fail
  refine bodyPost_ret (v := .int .i64 (rkN k 4 : Int)) (by simp [results, Tryz.results43, go_sem]) rfl ⟨rfl, hb⟩
theorem bits_and_nat {a b : Nat} (ha : a < 65536) (hb : b < 65536) : bits .and .i64 (a : Int) (b : Int) = ((a &&& b : Nat) : Int) := by
  have h : a &&& b ≤ a := Nat.and_le_left
  change IntKind.wrap .i64 ((BitVec.ofInt 64 (a : Int) &&& BitVec.ofInt 64 (b : Int)).toNat : Int) = _
  rw [BitVec.ofInt_natCast, BitVec.ofInt_natCast, BitVec.toNat_and, BitVec.toNat_ofNat, BitVec.toNat_ofNat, Nat.mod_eq_of_lt (by omega), Nat.mod_eq_of_lt (by omega)]
  rw [IntKind.wrap_i64]
  try unfold wrap64
  omega
theorem ranks_all : ∀ S : Fin 16, ∀ r : Fin 16, rkN (S.val &&& (2 ^ r.val - 1)) 4 = rkN S.val r.val ∧ S.val &&& (2 ^ r.val - 1) < 16 := by decide
end Go.Proofs.YtklgoajgchfmeaaGreatDoor
