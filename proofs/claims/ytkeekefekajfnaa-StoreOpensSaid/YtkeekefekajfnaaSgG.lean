/- What is kept: Keep, Kept, Signs. -/
import Derived.Test.YtkeekefekajfnaaSgF
import Derived.Test.YtkeekefekajfnaaLay
import Derived.Sort.OwnSorted
namespace Go.Proofs.Ytkeekefekajfnaa
open Go.RowKit Go.Maps Go.Sort Go.Shelf
open Go.Proofs (encStr)
set_option maxRecDepth 100000

theorem key_of5 (s : ByteArray) (h : s.size ≤ 140737488355328) : keyOf Try.prog 9 (.string s) = some (.string s.data.toList) := Go.WideMaps.keyOf_string_mk Try.underlying9 (by unfold maxLen; omega)
theorem Try.zeroLists (w : World) : (zeroValue 49).run Try.prog w = .ok (.slice none 0 0) w := by kernel_rfl

/-- Behind a list put in. -/
theorem KeptP.put {w w2 w1 : World} {S : Nat → Prop} {m : Nat} {F : Kept} {n : Nat} {D : DataW Value} {s : List UInt8} {L : Lists} {q : Option Addr} {c lo : Nat} (hlow : ∀ k, S k → k < w.heap.size) (hm : S m)
    (h2 : ∀ s, Maps.has D (.string s) = (F s).isSome)
    (h3 : ∀ s L, F s = some L → ∃ q c lo hi, (∀ z, D.atKey (.string s) z = .held (.slice q L.length c)) ∧ L.length ≤ c ∧ c ≤ 9223372036854775807 ∧ ListsA w lo hi q L ∧ hi ≤ w.heap.size ∧ ((∀ k, lo ≤ k → k < hi → S k) ∧ ¬ (lo ≤ m ∧ m < hi)) ∧ L.length ≤ 1000 ∧ ∀ x ∈ L, x.length * 8 ≤ 140737488355328)
    (hb : Below w.heap.size w w2) (hlo : lo = w.heap.size) (hD : IsMap D) (h1 : w1.ownsMap Try.prog 9 rawElem m (n + 1) (D.put (.string s) (.held (.slice q L.length c)))) (hg : w2.grownBy w1 (some m)) (hl1 : L.length ≤ c) (hl2 : c ≤ 9223372036854775807)
    (hL : ListsA w2 lo w2.heap.size q L) (hn : L.length ≤ 1000) (hx : ∀ x ∈ L, x.length * 8 ≤ 140737488355328) : KeptP w1 (fun k => S k ∨ (w.heap.size ≤ k ∧ k < w1.heap.size)) m (F.put s L) (n + 1) := by
  subst hlo
  have hmw := hlow m hm
  have hne : ∀ k, w.heap.size ≤ k → some k ≠ some m := fun k h e => by
    have e2 : k = m := by simpa using e
    omega
  refine ⟨_, h1, fun t => ?_, fun t M ht => ?_⟩
  · unfold Kept.put
    by_cases e : t = s
    · subst e
      rw [has_put_same hD (str_key _), if_pos rfl]
      rfl
    · rw [has_put_other (fun h => e (by simpa using h)), h2, if_neg e]
  · unfold Kept.put at ht
    by_cases e : t = s
    · subst e
      rw [if_pos rfl] at ht
      cases ht
      refine ⟨q, c, w.heap.size, w2.heap.size, fun z => atKey_put_same hD (str_key _) _ _, hl1, hl2, hL.same ⟨fun k hk1 hk2 => hg.block k hk2 (hne k hk1)⟩, hg.size, ⟨fun k hk1 hk2 => .inr ⟨hk1, Nat.lt_of_lt_of_le hk2 hg.size⟩, by omega⟩, hn, hx⟩
    · rw [if_neg e] at ht
      obtain ⟨q', c', lo, hi, a1, a2, a3, a4, a5, a6, a7⟩ := h3 t M ht
      have hne2 : ∀ k, lo ≤ k → k < hi → some k ≠ some m := fun k h1 h2 e => by
        have e2 : k = m := by simpa using e
        exact a6.2 (by omega)
      refine ⟨q', c', lo, hi, fun z => ?_, a2, a3, (a4.same (Same.of hb a5)).same ⟨fun k hk1 hk2 => hg.block k (by have := hb.size; omega) (hne2 k hk1 hk2)⟩, Nat.le_trans a5 (Nat.le_trans hb.size hg.size), ⟨fun k hk1 hk2 => .inl (a6.1 k hk1 hk2), a6.2⟩, a7⟩
      rw [atKey_put_other (fun h => e (by simpa using h))]
      exact a1 z

set_option maxHeartbeats 1000000 in
theorem put5_any (w : World) (S : Nat → Prop) (m : Nat) (F : Kept) (n : Nat) (s : ByteArray) (L : Lists) (q : Option Addr) (c bl bh : Nat) (h : KeptP w S m F n) (hlow : ∀ k, S k → k < w.heap.size) (hm : S m) (hn : n < 1000) (hs : s.size ≤ 140737488355328) (hc : L.length ≤ c) (hc2 : c ≤ 9223372036854775807) (hL : L.length ≤ 1000)
    (hx : ∀ x ∈ L, x.length * 8 ≤ 140737488355328) (hA : ListsA w bl bh q L) (hh : bh ≤ w.heap.size) :
    Calls Try.prog 35 #[.map (some m), .string s, .slice q L.length c] w fun e w' => e = .returned (.tuple #[]) ∧ KeptP w' (fun k => S k ∨ (w.heap.size ≤ k ∧ k < w'.heap.size)) m (F.put s.data.toList L) (n + 1) ∧ Out (fun k => k = m) w w' := by
  obtain ⟨D, hown, h2, h3⟩ := h.own
  have H0 := Lib.hid (And.intro h2 h3)
  have HO := Lib.hid hown
  have CC := Lib.hid (copiedRowsI_any L q c bl bh w (by omega) hc hc2 hx hA hh)
  have HX := Lib.hid hx
  have HD := Lib.hid hown.isMap
  clear h h2 h3 hown hx hA
  go_enter Try.func35, Try.ntmps35
  go_wp2_with fail
  refine (CC.out).mono ?_
  rintro e w2 ⟨q2, c2, rfl, O2, B2⟩
  have hmw := hlow m hm
  have HB := Lib.hid B2
  have HL := Lib.hid O2.lists.2
  have HO2 : w2.ownsMap Try.prog 9 rawElem m n D := by
    obtain ⟨es, clock, hb, hr⟩ := HO.out
    exact ⟨es, clock, by rw [B2.block m hmw]; exact hb, hr⟩
  have HO2 := Lib.hid HO2
  clear O2 B2
  go_wp2_with (at_mapUpdate; refine wpList_mapUpdate_own _ rfl _ _ _ 64 rfl 9 49 (string_keyed Try.underlying9) Try.underlying64 rawElem m n D rfl HO2.out (by unfold maxLen; omega) _ _ _ rfl rfl (key_of5 s hs) (.held (.slice q2 L.length c2)) [] rfl ?_)
  intro w1 hown1 hg1
  have K := Lib.hid (KeptP.put hlow hm H0.out.1 H0.out.2 HB.out rfl HD.out hown1 hg1 HL.out.le HL.out.le2 HL.out.arr hL HX.out)
  have OO := Lib.hid (show Out (fun k => k = m) w w1 from (Out.of HB.out).trans (Out.grown hg1 (fun k hk => by simpa using hk.symm)))
  clear hown1 hg1
  go_wp2
  go_end0
  exact ⟨rfl, K.out, OO.out⟩

set_option maxHeartbeats 1000000 in
theorem keep_any (w : World) (S : Nat → Prop) (p : Nat) (l : List Tab) (F : Kept) (n : Nat) (s : ByteArray) (L : Lists) (q : Option Addr) (c bl bh : Nat) (h : StP w S p l F n) (hn : n < 1000) (hs : s.size ≤ 140737488355328) (hc : L.length ≤ c) (hc2 : c ≤ 9223372036854775807) (hL : L.length ≤ 1000) (hx : ∀ x ∈ L, x.length * 8 ≤ 140737488355328)
    (hA : ListsA w bl bh q L) (hh : bh ≤ w.heap.size) :
    Calls Try.prog 20 #[.pointer (some ⟨p, 0, none⟩), .string s, .slice q L.length c] w fun e w' => e = .returned (.tuple #[]) ∧ (∃ S', StP w' S' p l (F.put s.data.toList L) (n + 1) ∧ ∀ k, S' k → S k ∨ w.heap.size ≤ k) ∧ Out S w w' := by
  obtain ⟨q0, c0, m, lo, hi, ⟨a0, a1⟩, a2, a3, a4, a5, a6, ⟨a7, a8, a9, a11⟩, a10⟩ := h.at_
  have PP := Lib.hid (put5_any w S m F n s L q c bl bh a10 h.low a8 hn hs hc hc2 hL hx hA hh)
  have H := Lib.hid h
  have A := Lib.hid (And.intro a4 (And.intro a6 a11))
  have hmw := h.low m a8
  have hpw := h.low p a7
  clear h a4 a6 a10 hx hA a11
  go_enter Try.func20, Try.ntmps20
  go_wp2_with fail
  refine (PP.out).mono ?_
  rintro e w1 ⟨rfl, K, o⟩
  have b0 : w1.cell? ⟨p, 0, none⟩ = some (.slice q0 l.length c0) := (World.cell?_of_block (w := w) (a := ⟨p, 0, none⟩) (o.block p hpw a9)).trans a0
  have b1 : w1.cell? ⟨p, 1, none⟩ = some (.map (some m)) := (World.cell?_of_block (w := w) (a := ⟨p, 1, none⟩) (o.block p hpw a9)).trans a1
  have R := Lib.hid (show StP w1 (fun k => S k ∨ (w.heap.size ≤ k ∧ k < w1.heap.size)) p l (F.put s.data.toList L) (n + 1) from ⟨H.out.right, fun k hk => hk.elim (fun h => Nat.lt_of_lt_of_le (H.out.low k h) o.size) (fun h => h.2), by omega, q0, c0, m, lo, hi, ⟨b0, b1⟩, a2, a3,
    A.out.1.same (Same.out o a5 (fun k hk hin => A.out.2.2 (by subst hk; exact hin))), Nat.le_trans a5 o.size, fun k h1 h2 => .inl (A.out.2.1 k h1 h2), ⟨.inl a7, .inl a8, a9, A.out.2.2⟩, K⟩)
  have OO := Lib.hid (show Out S w w1 from o.mono (fun k _ hk => by rw [hk]; exact a8))
  clear K o b0 b1 a0 a1
  go_wp2
  go_end0
  exact ⟨rfl, ⟨_, R.out, fun k hk => hk.elim .inl (fun h => .inr h.1)⟩, OO.out⟩

set_option maxHeartbeats 1000000 in
theorem get5_any (w : World) (S : Nat → Prop) (m : Nat) (F : Kept) (n : Nat) (s : ByteArray) (h : KeptP w S m F n) (hs : s.size ≤ 140737488355328) :
    Calls Try.prog 36 #[.map (some m), .string s] w fun e w' =>
      (∃ q c, e = .returned (.tuple #[.slice q ((F s.data.toList).getD []).length c, .bool (F s.data.toList).isSome]) ∧ OwnLists w' w.heap.size q c ((F s.data.toList).getD [])) ∧ Below w.heap.size w w' := by
  obtain ⟨D, hown, h2, h3⟩ := h.own
  have hhas := h2 s.data.toList
  have h3s := h3 s.data.toList
  clear h h2 h3
  obtain ⟨o, ho⟩ : ∃ o, o = F s.data.toList := ⟨_, rfl⟩
  rw [← ho] at hhas h3s ⊢
  clear ho
  cases o with
  | none =>
    have hat := atKey_of_not_has (z := (.held (.slice none 0 0) : DataW Value)) hhas
    have HA := Lib.hid (And.intro hat hhas)
    clear hat hhas h3s
    go_enter Try.func36, Try.ntmps36
    go_wp2_with (at_lookup; refine wpList_lookup_own_ok _ rfl _ _ 64 rfl 9 49 (string_keyed Try.underlying9) Try.underlying64 rawElem (Try.zeroLists _) (.held (.slice none 0 0)) [] rfl m n D rfl hown _ _ rfl (key_of5 s hs) ?_; intro v ps hv; rw [HA.out.1] at hv; obtain ⟨rfl, rfl⟩ : v = .slice none 0 0 ∧ ps = [] := (by simpa [rawElem] using hv); rw [HA.out.2])
    refine bodyPost_ret (v := .tuple #[.slice none 0 0, .bool false]) (by simp [results, Try.results36, go_sem]) rfl ⟨⟨none, 0, rfl, OwnLists.nil _ _⟩, Below.refl _ _⟩
  | some L =>
    obtain ⟨q, c, lo, hi, b1, b2, b3, b4, b5, b6, b7, b8⟩ := h3s L rfl
    have HA := Lib.hid (And.intro b1 hhas)
    have CC := Lib.hid (copiedRowsI_any L q c lo hi w (by omega) b2 b3 b8 b4 b5)
    clear b1 hhas h3s b4 b6 b8
    go_enter Try.func36, Try.ntmps36
    go_wp2_with (at_lookup; refine wpList_lookup_own_ok _ rfl _ _ 64 rfl 9 49 (string_keyed Try.underlying9) Try.underlying64 rawElem (Try.zeroLists _) (.held (.slice none 0 0)) [] rfl m n D rfl hown _ _ rfl (key_of5 s hs) ?_; intro v ps hv; rw [HA.out.1] at hv; obtain ⟨rfl, rfl⟩ : v = .slice q L.length c ∧ ps = [] := (by simpa [rawElem] using hv); rw [HA.out.2])
    refine (CC.out).mono ?_
    rintro e w2 ⟨q2, c2, rfl, O2, B2⟩
    have HL := Lib.hid O2.lists.2
    clear O2
    go_wp2
    refine bodyPost_ret (v := .tuple #[.slice q2 L.length c2, .bool true]) (by simp [results, Try.results36, go_sem]) rfl ⟨⟨q2, c2, rfl, HL.out⟩, B2⟩

set_option maxHeartbeats 1000000 in
theorem kept_any (w : World) (S : Nat → Prop) (p : Nat) (l : List Tab) (F : Kept) (n : Nat) (s : ByteArray) (h : StP w S p l F n) (hs : s.size ≤ 140737488355328) :
    Calls Try.prog 21 #[.pointer (some ⟨p, 0, none⟩), .string s] w fun e w' =>
      (∃ q c, e = .returned (.tuple #[.slice q ((F s.data.toList).getD []).length c, .bool (F s.data.toList).isSome]) ∧ OwnLists w' w.heap.size q c ((F s.data.toList).getD [])) ∧ Below w.heap.size w w' := by
  obtain ⟨q0, c0, m, lo, hi, ⟨a0, a1⟩, a2, a3, a4, a5, a6, -, a10⟩ := h.at_
  have GG := Lib.hid (get5_any w S m F n s a10 hs)
  clear h a4 a6 a10
  obtain ⟨o, ho⟩ : ∃ o, o = F s.data.toList := ⟨_, rfl⟩
  rw [← ho] at GG ⊢
  clear ho
  go_enter Try.func21, Try.ntmps21
  go_wp2_with fail
  refine (GG.out).mono ?_
  rintro e w1 ⟨⟨q, c, rfl, O⟩, B⟩
  go_wp2
  refine bodyPost_ret (v := .tuple #[.slice q (o.getD []).length c, .bool o.isSome]) (by simp [results, Try.results21, go_sem]) rfl ⟨⟨q, c, rfl, O⟩, B⟩

theorem sorts_in5 (k : Nat) : AnyZ.SortsIn Try.prog Try.sorted37_ren Fence.wide k :=
  ⟨fun blk off cap ss W hH hblk hsz => callsIn_wide.2 (AnyM.slices_Sort_string Try.sort47 blk off cap ss W hH hblk hsz), fun p cap W => callsIn_wide.2 (AnyM.slices_Sort_string_none Try.sort47 p cap W)⟩

theorem mapKeys5_any (mb : Option Nat) (W : World) : CallsIn Fence.wide 5 Try.prog 38 #[.map mb] W fun e w' => e = .returned (.func (.func 48) #[] #[.pointer (some ⟨W.heap.size, 0, none⟩)]) ∧ w' = W.alloc (.cells #[.map mb] 64) :=
  AnyZ.keys_in Try.keys38 Fence.wide 5 trivial rfl mb W

set_option maxHeartbeats 1000000 in
theorem sortedKeys5_any (b n : Nat) (D : DataW Value) (w : World) (hown : w.ownsMap Try.prog 9 rawElem b n D) (hn : n ≤ 8796093022208) :
    CallsIn Fence.wide 5 Try.prog 37 #[.func (.func 48) #[] #[.pointer (some ⟨w.heap.size, 0, none⟩)]] (w.alloc (.cells #[.map (some b)] 64)) fun e w' => ∃ (v : Value) (ss : List (List UInt8)), e = .returned v ∧ ss.Perm (strKeys D) ∧
      w'.ownsRow (w.alloc (.cells #[.map (some b)] 64)).heap.size 9 1 v ss.length ((ss.mergeSort (fun x y => decide (x ≤ y))).map encStr) ∧ (v = .slice none 0 0 ↔ ss = []) ∧ Below (w.alloc (.cells #[.map (some b)] 64)).heap.size (w.alloc (.cells #[.map (some b)] 64)) w' := by
  have hbl := hown.lt
  have hsz := hown.size_le
  have hseq : SeqGives Fence.wide 2 Try.prog 48 #[.pointer (some ⟨w.heap.size, 0, none⟩)] encStr (fun ss => ss.Perm (strKeys D)) (Maps.size D) (w.alloc (.cells #[.map (some b)] 64)) :=
    AnyZ.keys_gives (ρ := Try.keys38_ren) { Try.keys38 with } Fence.wide _ trivial rfl (by omega) w.heap.size b n D _ (by simp) (by simp) (by
      obtain ⟨es, clock, hb, Ft, hs, hD⟩ := hown
      exact ⟨es, clock, (Below.heap_alloc _ _ b hbl).trans hb, Ft, hs, hD⟩)
  exact AnyZ.sorted_in Try.sorted37 Fence.wide 5 trivial trivial trivial trivial rfl (by omega) (sorts_in5 _) (enters_of Try.func47 (by kernel_rfl) rfl) 48 #[.pointer (some ⟨w.heap.size, 0, none⟩)] trivial (enters_of Try.func48 (by kernel_rfl) rfl) _ _ (by unfold maxLen; omega) (by omega) _ hseq

theorem keys_of5 {w : World} {m N : Nat} {D : DataW Value} (h : w.ownsMap Try.prog 9 rawElem m N D) : (strKeys D).Nodup ∧ (∀ x, x ∈ strKeys D ↔ Maps.has D (.string x) = true) ∧ (strKeys D).length ≤ N := by
  have hsz := h.size_le
  obtain ⟨es, hD, hpw, _⟩ := h.entries (string_keyed Try.underlying9)
  obtain ⟨es', hD', hko⟩ := h.keysOf
  obtain rfl : es = es' := by rw [hD] at hD'; simpa using hD'
  subst hD
  have hk : ∀ q ∈ es, ∃ x, q.1 = .string x := fun q hq => by
    obtain ⟨v, hv⟩ := hko q hq
    obtain ⟨x, _, hx, _⟩ := Maps.keyOf_str Try.underlying9 hv
    exact ⟨x, hx⟩
  refine ⟨?_, fun x => ?_, by simpa [strKeys, Maps.size] using hsz⟩
  · refine List.pairwise_map.2 (hpw.imp_of_mem fun {a b} ha hb hne e => hne ?_)
    obtain ⟨x, hx⟩ := hk a ha
    obtain ⟨y, hy⟩ := hk b hb
    rw [hx, hy] at e ⊢
    exact congrArg _ e
  · rw [has_eq, List.any_eq_true]
    show x ∈ es.map (fun q => strOf q.1) ↔ _
    rw [List.mem_map]
    constructor
    · rintro ⟨q, hq, rfl⟩
      obtain ⟨y, hy⟩ := hk q hq
      exact ⟨q, hq, by rw [hy]; simp [Lit.sameKey, strOf]⟩
    · rintro ⟨q, hq, hs⟩
      obtain ⟨y, hy⟩ := hk q hq
      rw [hy] at hs
      exact ⟨q, hq, by rw [hy]; simpa [Lit.sameKey, strOf] using hs⟩

abbrev strCell (x : ByteArray) : List Value := [.string x]
theorem strCell_len (x : ByteArray) : (strCell x).length = 1 := rfl
theorem strs_flat (l : List (List UInt8)) : l.flatMap (fun x => strCell ⟨x.toArray⟩) = l.map encStr := by
  induction l with
  | nil => rfl
  | cons a l ih => rw [List.flatMap_cons, List.map_cons, ih]; rfl
/-- The texts that Signs tells. -/
structure SignsP (F : Kept) (n : Nat) (K : List ByteArray) : Prop where
  len : K.length ≤ n
  up : K.Pairwise (fun a b => a.data.toList < b.data.toList)
  mem : ∀ s, s ∈ K.map (fun x => x.data.toList) ↔ (F s).isSome
theorem signs_of {w : World} {m N : Nat} {D : DataW Value} {F : Kept} {ss : List (List UInt8)} (h : w.ownsMap Try.prog 9 rawElem m N D) (h2 : ∀ s, Maps.has D (.string s) = (F s).isSome) (hp : ss.Perm (strKeys D)) :
    SignsP F N ((ss.mergeSort (fun x y => decide (x ≤ y))).map fun x => ⟨x.toArray⟩) := by
  obtain ⟨h1, h3, h4⟩ := keys_of5 h
  have hnd : (ss.mergeSort (fun x y => decide (x ≤ y))).Nodup := (((List.mergeSort_perm ss _).trans hp).nodup_iff).2 h1
  have tr : ∀ a b c : List UInt8, decide (a ≤ b) = true → decide (b ≤ c) = true → decide (a ≤ c) = true := fun a b c h1 h2 => by simp only [decide_eq_true_eq] at *; exact List.le_trans h1 h2
  have tot : ∀ a b : List UInt8, (decide (a ≤ b) || decide (b ≤ a)) = true := fun a b => by simp only [Bool.or_eq_true, decide_eq_true_eq]; exact List.le_total a b
  refine ⟨?_, ?_, fun s => ?_⟩
  · rw [List.length_map, List.length_mergeSort, hp.length_eq]
    exact h4
  · refine List.pairwise_map.2 (((List.pairwise_mergeSort tr tot ss).and hnd).imp ?_)
    rintro a b ⟨h1, h2⟩
    refine Classical.byContradiction fun hn => h2 ?_
    exact List.le_antisymm (by simpa using h1) (List.not_lt.1 (by simpa using hn))
  · rw [List.map_map, show ((fun x : ByteArray => x.data.toList) ∘ fun x : List UInt8 => (⟨x.toArray⟩ : ByteArray)) = id from by funext x; simp, List.map_id, ((List.mergeSort_perm ss _).trans hp).mem_iff, h3 s, h2 s]

theorem OwnF.strs {w : World} {base : Nat} {q : Option Addr} {n c : Nat} {l : List ByteArray} (h : OwnF w base 9 1 strCell (.slice q n c) l) : n = l.length ∧ l.length ≤ c ∧ c ≤ 9223372036854775807 ∧ StrsA w 0 w.heap.size q l := by
  obtain ⟨q', c', e, h1, h2, _, h4⟩ := h.arr strCell_len
  simp only [Value.slice.injEq] at e
  obtain ⟨rfl, rfl, rfl⟩ := e
  exact ⟨rfl, h1, h2, ArrA.imp (h4.wide (Nat.zero_le _) (Nat.le_refl _)) fun _ _ _ _ _ h => h 0 _ rfl⟩

set_option maxHeartbeats 1000000 in
theorem signs_any (w : World) (S : Nat → Prop) (p : Nat) (l : List Tab) (F : Kept) (n : Nat) (h : StP w S p l F n) :
    Calls Try.prog 22 #[.pointer (some ⟨p, 0, none⟩)] w fun e w' =>
      (∃ q c K, e = .returned (.slice q K.length c) ∧ K.length ≤ c ∧ c ≤ 9223372036854775807 ∧ StrsA w' 0 w'.heap.size q K ∧ K.length ≤ n ∧ K.Pairwise (fun a b => a.data.toList < b.data.toList) ∧ ∀ s, s ∈ K.map (fun x => x.data.toList) ↔ (F s).isSome) ∧ Below w.heap.size w w' := by
  obtain ⟨q0, c0, m, lo, hi, ⟨a0, a1⟩, a2, a3, a4, a5, a6, -, a10⟩ := h.at_
  obtain ⟨D, hown, hD, -⟩ := a10.own
  have hn := h.few
  clear h a4 a6 a10
  refine (callsIn_wide (n := 6)).1 ?_
  have hfK : Fence.wide.fn 38 := trivial
  have hfS : Fence.wide.fn 37 := trivial
  refine callsIn_of_wp Try.func22 rfl trivial ?_ rfl
  simp only [Try.ntmps22, List.size_toArray, List.length_cons, List.length_nil, Nat.reduceAdd, Nat.reduceSub, Array.replicate_succ, Array.replicate_zero, List.push_toArray, List.append_toArray, List.nil_append, List.cons_append]
  gi_wp2_with (first
    | (gi_at_call 38; refine (mapKeys5_any _ _).mono ?_; rintro e w' ⟨rfl, rfl⟩)
    | (gi_at_call 37; refine (sortedKeys5_any m n D w hown (by omega)).mono ?_; rintro e w' ⟨v, ss, rfl, hS, hrow, hnil, hb⟩))
  go_ret
  have HS := signs_of hown hD hS
  have h := ownsRow_base_a hrow (show w.heap.size ≤ _ by simp)
  have hO : OwnF w' w.heap.size 9 1 strCell v ((ss.mergeSort (fun x y => decide (x ≤ y))).map fun x => ⟨x.toArray⟩) := by
    unfold OwnF
    rw [List.length_map, List.length_mergeSort, List.flatMap_map]
    rw [strs_flat]
    exact h
  obtain ⟨q, c, rfl, -⟩ := hO.arr strCell_len
  obtain ⟨_, k1, k2, k3⟩ := hO.strs
  exact ⟨⟨q, c, _, rfl, k1, k2, k3, HS.len, HS.up, HS.mem⟩, ((Below.refl _ w).alloc (Nat.le_refl _) _).trans (hb.mono (by simp))⟩

end Go.Proofs.Ytkeekefekajfnaa
