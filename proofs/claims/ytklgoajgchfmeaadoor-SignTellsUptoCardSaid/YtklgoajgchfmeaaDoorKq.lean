/- A part of the proof. -/
import Derived.Test.YtklgoajgchfmeaaDoorKp
import Derived.Sort.OwnSorted
import Derived.Test.YtklgoajgchfmeaaDoorKn
import Derived.Test.YtklgoajgchfmeaaDoorKg
import Derived.Test.YtklgoajgchfmeaaDoorKh
set_option linter.unusedVariables false
set_option linter.unusedSimpArgs false
namespace Go.Proofs.YtklgoajgchfmeaaDoor
open Go.RowKit Go.Maps Go.Sort Go.Shelf Go.ChangeShapes Go.Deep
open Go.Proofs (encStr)
set_option maxRecDepth 100000
theorem sortsX_in (k : Nat) : AnyZ.SortsIn Tryd.prog Tryd.sorted33_ren Fence.wide k :=
  ⟨fun blk off cap ss W hH hblk hsz => callsIn_wide.2 (AnyM.slices_Sort_string Tryd.sort48 blk off cap ss W hH hblk hsz), fun p cap W => callsIn_wide.2 (AnyM.slices_Sort_string_none Tryd.sort48 p cap W)⟩
theorem mapKeysX_any (mb : Option Nat) (W : World) : Calls Tryd.prog 34 #[.map mb] W fun e w' => e = .returned (.func (.func 49) #[] #[.pointer (some ⟨W.heap.size, 0, none⟩)]) ∧ w' = W.alloc (.cells #[.map mb] 56) :=
  callsIn_wide.1 (AnyZ.keys_in Tryd.keys34 Fence.wide 5 trivial rfl mb W)
set_option maxHeartbeats 1000000 in
theorem sortedKeysX_in (b n : Nat) (D : DataW Value) (w : World) (hown : w.ownsMap Tryd.prog 9 rawX b n D) (hn : n ≤ 8796093022208) :
    CallsIn Fence.wide 5 Tryd.prog 33 #[.func (.func 49) #[] #[.pointer (some ⟨w.heap.size, 0, none⟩)]] (w.alloc (.cells #[.map (some b)] 56)) fun e w' => ∃ (v : Value) (ss : List (List UInt8)), e = .returned v ∧ ss.Perm (strKeys D) ∧
      w'.ownsRow (w.alloc (.cells #[.map (some b)] 56)).heap.size 9 1 v ss.length ((ss.mergeSort (fun x y => decide (x ≤ y))).map encStr) ∧ (v = .slice none 0 0 ↔ ss = []) ∧ Below (w.alloc (.cells #[.map (some b)] 56)).heap.size (w.alloc (.cells #[.map (some b)] 56)) w' := by
  have hbl := hown.lt
  have hsz := hown.size_le
  have hseq : SeqGives Fence.wide 2 Tryd.prog 49 #[.pointer (some ⟨w.heap.size, 0, none⟩)] encStr (fun ss => ss.Perm (strKeys D)) (Maps.size D) (w.alloc (.cells #[.map (some b)] 56)) :=
    AnyZ.keys_gives (ρ := Tryd.keys34_ren) { Tryd.keys34 with } Fence.wide _ trivial rfl (by omega) w.heap.size b n D _ (by simp) (by simp) (by
      obtain ⟨es, clock, hb, Ft, hs, hD⟩ := hown
      exact ⟨es, clock, (Below.heap_alloc _ _ b hbl).trans hb, Ft, hs, hD⟩)
  exact AnyZ.sorted_in Tryd.sorted33 Fence.wide 5 trivial trivial trivial trivial rfl (by omega) (sortsX_in _) (enters_of Tryd.func48 (by kernel_rfl) rfl) 49 #[.pointer (some ⟨w.heap.size, 0, none⟩)] trivial (enters_of Tryd.func49 (by kernel_rfl) rfl) _ _ (by unfold maxLen; omega) (by omega) _ hseq
theorem keys_ofX {w : World} {m N : Nat} {D : DataW Value} (h : w.ownsMap Tryd.prog 9 rawX m N D) : (strKeys D).Nodup ∧ (∀ x, x ∈ strKeys D ↔ Maps.has D (.string x) = true) ∧ (strKeys D).length ≤ N := by
  have hsz := h.size_le
  obtain ⟨es, hD, hpw, _⟩ := h.entries (string_keyed Tryd.underlying9)
  obtain ⟨es', hD', hko⟩ := h.keysOf
  obtain rfl : es = es' := by rw [hD] at hD'; simpa using hD'
  subst hD
  have hk : ∀ q ∈ es, ∃ x, q.1 = .string x := fun q hq => by
    obtain ⟨v, hv⟩ := hko q hq
    obtain ⟨x, _, hx, _⟩ := Maps.keyOf_str Tryd.underlying9 hv
    exact ⟨x, hx⟩
  refine ⟨?_, fun x => ?_, by simpa [strKeys, Maps.size] using hsz⟩
  · refine List.pairwise_map.2 (hpw.imp_of_mem fun {a b} ha hb hne e => hne ?_)
    obtain ⟨x, hx⟩ := hk a ha
    obtain ⟨y, hy⟩ := hk b hb
    rw [hx, hy] at e ⊢
    exact congrArg _ e
  · rw [has_eq, List.any_eq_true]
    show x ∈ es.map (fun q => strOf q.1) ↔ _
    rw [List.mem_map]
    constructor
    · rintro ⟨q, hq, rfl⟩
      obtain ⟨y, hy⟩ := hk q hq
      exact ⟨q, hq, by rw [hy]; simp [Lit.sameKey, strOf]⟩
    · rintro ⟨q, hq, hs⟩
      obtain ⟨y, hy⟩ := hk q hq
      rw [hy] at hs
      exact ⟨q, hq, by rw [hy]; simpa [Lit.sameKey, strOf] using hs⟩
theorem rising_one {α : Type} {R : α → α → Prop} (irr : ∀ a, ¬ R a a) (tr : ∀ a b c, R a b → R b c → R a c) : ∀ (K M : List α), K.Pairwise R → M.Pairwise R → (∀ z, z ∈ K ↔ z ∈ M) → K = M
  | [], [], _, _, _ => rfl
  | [], y :: M, _, _, h => by have := (h y).2 (by simp); simp at this
  | x :: K, [], _, _, h => by have := (h x).1 (by simp); simp at this
  | x :: K, y :: M, hK, hM, h => by
    rw [List.pairwise_cons] at hK hM
    have e : x = y := by
      have h1 := (h x).1 (by simp)
      have h2 := (h y).2 (by simp)
      rcases List.mem_cons.1 h1 with e | h1
      · exact e
      · rcases List.mem_cons.1 h2 with e | h2
        · exact e.symm
        · exact absurd (tr _ _ _ (hK.1 y h2) (hM.1 x h1)) (irr x)
    subst e
    rw [rising_one irr tr K M hK.2 hM.2 fun z => ?_]
    constructor
    · intro hz
      rcases List.mem_cons.1 ((h z).1 (by simp [hz])) with e | h'
      · subst e; exact absurd (hK.1 z hz) (irr z)
      · exact h'
    · intro hz
      rcases List.mem_cons.1 ((h z).2 (by simp [hz])) with e | h'
      · subst e; exact absurd (hM.1 z hz) (irr z)
      · exact h'
theorem keys_sorted {L : List Ex} {ks ss : List (List UInt8)} (ok : ∀ x ∈ L, x.okAll = true) (h1 : ks.Nodup) (h2 : ∀ t, t ∈ ks ↔ ∃ x ∈ L, x.print = t) (hp : ss.Perm ks) : ss.mergeSort (fun x y => decide (x ≤ y)) = (sortE L).map Ex.print := by
  have hnd : (ss.mergeSort (fun x y => decide (x ≤ y))).Nodup := (((List.mergeSort_perm ss _).trans hp).nodup_iff).2 h1
  have tr : ∀ a b c : List UInt8, decide (a ≤ b) = true → decide (b ≤ c) = true → decide (a ≤ c) = true := fun a b c h1 h2 => by simp only [decide_eq_true_eq] at *; exact List.le_trans h1 h2
  have tot : ∀ a b : List UInt8, (decide (a ≤ b) || decide (b ≤ a)) = true := fun a b => by simp only [Bool.or_eq_true, decide_eq_true_eq]; exact List.le_total a b
  obtain ⟨hs1, hs2⟩ := sortE_is ok
  refine rising_one (R := fun a b => a < b) (fun a h => List.lt_irrefl a h) (fun a b c h1 h2 => List.lt_trans h1 h2) _ _ ?_ ?_ fun t => ?_
  · refine ((List.pairwise_mergeSort tr tot ss).and hnd).imp ?_
    rintro a b ⟨h1, h2⟩
    refine Classical.byContradiction fun hn => h2 ?_
    exact List.le_antisymm (by simpa using h1) (List.not_lt.1 (by simpa using hn))
  · refine List.pairwise_map.2 (hs1.imp fun {a b} h => ?_)
    have h' : Op.bytesLess a.print b.print = true := h
    rw [bytesLess_eq] at h'
    simpa using h'
  · rw [((List.mergeSort_perm ss _).trans hp).mem_iff, h2]
    constructor
    · rintro ⟨x, hx, rfl⟩; exact List.mem_map.2 ⟨x, (hs2 x).2 hx, rfl⟩
    · intro h
      obtain ⟨x, hx, rfl⟩ := List.mem_map.1 h
      exact ⟨x, (hs2 x).1 hx, rfl⟩
theorem skeys_any (w : World) (m n b : Nat) (L : List Ex) (h : MapX w m n b L) (hn : n ≤ 8796093022208) :
    Calls Tryd.prog 33 #[.func (.func 49) #[] #[.pointer (some ⟨w.heap.size, 0, none⟩)]] (w.alloc (.cells #[.map (some m)] 56)) fun e w' =>
      (∃ q c, e = .returned (.slice q (sortE L).length c) ∧ StrsA w' w.heap.size w'.heap.size q ((sortE L).map fun x => bsB x.print) ∧ OwnF w' w.heap.size 9 1 (fun x : ByteArray => [Value.string x]) (.slice q (sortE L).length c) ((sortE L).map fun x => bsB x.print)) ∧ Below (w.alloc (.cells #[.map (some m)] 56)).heap.size (w.alloc (.cells #[.map (some m)] 56)) w' := by
  obtain ⟨ok, D, hown, hD1, -⟩ := h
  obtain ⟨k1, k2, k3⟩ := keys_ofX hown
  refine (callsIn_wide.1 (sortedKeysX_in m n D w hown hn)).mono ?_
  rintro e w' ⟨v, ss, rfl, hp, hrow, -, hb⟩
  have hks := keys_sorted (fun x hx => (right_iff8.1 (ok x hx)).1) k1 (fun t => (k2 t).trans (hD1 t)) hp
  have hl : ss.length = (sortE L).length := by rw [← List.length_mergeSort (le := fun x y => decide (x ≤ y)) ss, hks, List.length_map]
  rw [hks, hl, List.map_map] at hrow
  have hO : OwnF w' (w.alloc (.cells #[.map (some m)] 56)).heap.size 9 1 (fun x : ByteArray => [Value.string x]) v ((sortE L).map fun x => bsB x.print) := by
    unfold OwnF
    rw [List.length_map, List.flatMap_map]
    have e : ((sortE L).flatMap fun x => [Value.string (bsB x.print)]) = (sortE L).map (encStr ∘ Ex.print) := by
      rw [← List.map_eq_flatMap]
      rfl
    rw [e]
    exact hrow
  obtain ⟨q, c, hv, -, -, -, hA⟩ := OwnF.arr (cells := fun x : ByteArray => [Value.string x]) (sz := 1) (fun _ => rfl) hO
  subst hv
  rw [List.length_map] at hO ⊢
  exact ⟨⟨q, c, rfl, ArrA.imp (hA.wide (by simp) (Nat.le_refl _)) fun _ _ _ _ _ h => h 0 _ rfl, hO.base_le (by simp)⟩, hb⟩
theorem wp_append_y {w : World} {ops : Array Oper} {rest : List Oper} {o : Oper} {a : Act} {Q : Exit → Act → World → Prop} (hgd : o.guard = none) (s x : Operand)
    (ho : o.op = .call { callee := .builtin .append, args := #[s, x], argTypes := #[24, 24] }) (b : Nat) (P : Nat → Prop) (v : Value) (L : List Ex) (hs : a.eval s = v) (hL : OwnX w b P v L) (nn : Nat) (hnn : nn = L.length)
    (r : RawE) (y : Ex) (p : Option Addr) (cp lo hi : Nat) (hx : a.eval x = .slice p 1 cp) (hR : ArrA lo hi p 9 [r] (fun g o r => ∀ (k : Nat) u, r.cells[k]? = some u → w.cell? ⟨g, o + k, none⟩ = some u))
    (hy : ExMP w (fun k => P k ∧ v.ownBlock ≠ some k) y r.cells) (hn : (nn + 1) * 104 ≤ 140737488355328) (hb : b ≤ w.heap.size)
    (h : ∀ q c w', OwnX w' b P (.slice q (nn + 1) c) (L ++ [y]) → Below b w w' → Out (fun k => v.ownBlock = some k) w w' → ((Value.slice q (nn + 1) c).ownBlock = v.ownBlock ∨ (Value.slice q (nn + 1) c).ownBlock = some w.heap.size) → wpList Tryd.prog ops Q rest (a.put o.dst (.slice q (nn + 1) c)) w') : wpList Tryd.prog ops Q (o :: rest) a w := by
  subst hnn
  obtain ⟨K, h1, h2, h3⟩ := hL
  obtain ⟨v', w', hr, h4, h5, h6, h7⟩ := run_append_flat w 24 26 o.type Tryd.underlying24 _ 104 Tryd.infoExpr8 rfl (by decide) RawE.cells_len RawE.cells_one b v K h1 p 1 cp [r] rfl lo hi hR (by rw [h2]; simp only [List.length_cons, List.length_nil]; unfold maxLen; omega) (by rw [h2]; simpa using hn) hb
  obtain ⟨q, c, e, -⟩ := OwnF.arr RawE.cells_len h4
  have el : (K ++ [r]).length = L.length + 1 := by simp [h2]
  rw [el] at e
  subst e
  refine wpList_plain hgd fun KK hK => ?_
  unfold Oper.wp execOp
  simp only [ho, resolve, invoke, builtin, Sem.run_bind, Sem.run_pure, Result.andThen_ok, List.map_toArray, List.map_cons, List.map_nil, hs, hx, hr]
  refine hK _ _ (h q c w' ⟨K ++ [r], h4, by simp [h2], fun j r0 z hr0 hz => ?_⟩ h5 h6 h7)
  have hP : ∀ (y : Ex) (cs : List Value), ExMP w (fun k => P k ∧ v.ownBlock ≠ some k) y cs → ExMP w' (fun k => P k ∧ (Value.slice q (L.length + 1) c).ownBlock ≠ some k) y cs := fun y cs hy => ExMP.on h6.size (fun k hk hkw => h6.block k hkw hk.2) (fun k hk hkw => ⟨hk.1, fun e => by
    rcases h7 with h7 | h7
    · rw [h7] at e; exact hk.2 e
    · rw [h7] at e; cases e; exact Nat.lt_irrefl _ hkw⟩) y cs hy
  by_cases hj : j < K.length
  · rw [List.getElem?_append_left hj] at hr0
    rw [List.getElem?_append_left (by omega)] at hz
    exact hP _ _ (h3 j r0 z hr0 hz)
  · have hjk : j = K.length := by
      have := (List.getElem?_eq_some_iff.1 hr0).1
      simp at this
      omega
    rw [hjk, List.getElem?_append_right (Nat.le_refl _), Nat.sub_self] at hr0
    rw [hjk, h2, List.getElem?_append_right (Nat.le_refl _), Nat.sub_self] at hz
    simp at hr0 hz
    subst hr0 hz
    exact hP _ _ hy
theorem strs_out {V V' : World} {lo hi : Nat} {q : Option Addr} {l : List ByteArray} (h : StrsA V lo hi q l) (o : ∀ k, lo ≤ k → k < hi → V'.heap[k]? = V.heap[k]?) : StrsA V' lo hi q l := fun i hi' => by
  obtain ⟨g, off, e, h1, h2, h3⟩ := h i hi'
  exact ⟨g, off, e, h1, h2, fun j s hs => (World.cell?_of_block (w := V) (o g h1 h2)).trans (h3 j s hs)⟩
theorem Tryd.zeroExprX (w : World) : (zeroValue 26).run Tryd.prog w = .ok (.agg rawZ.cells.toArray) w := by kernel_rfl
set_option maxHeartbeats 16000000 in
theorem ascending_any (w : World) (m n b : Nat) (L : List Ex) (h : MapX w m n b L) (hn : n * 104 ≤ 140737488355328) (hL : L.length * 104 ≤ 140737488355328) :
    Calls Tryd.prog 27 #[.map (some m)] w fun e w' => (∃ v, e = .returned v ∧ OwnX w' w.heap.size (fun k => b ≤ k) v (sortE L)) ∧ Below w.heap.size w w' := by
  have H0 := Lib.hid h
  obtain ⟨ok, D, hown, hD1, hD2⟩ := h
  have hlen := hown.len Tryd.underlying56 3
  have hsz := hown.size_le
  obtain ⟨cap, hcap⟩ : ∃ c, c = Maps.size D := ⟨_, rfl⟩
  rw [← hcap] at hlen hsz
  have HRT := Lib.hid ok
  have HOK := Lib.hid (fun x hx => (right_iff8.1 (ok x hx)).1)
  have HOW := Lib.hid hown
  have HD2 := Lib.hid hD2
  have HSL := Lib.hid (sortE_len L)
  obtain ⟨i0, hi0, hz0, hz1, hz2⟩ := info_parts Tryd.infoExpr8
  clear ok hown hD1 hD2 hcap
  go_enter Tryd.func27, Tryd.ntmps27
  go_wp2_with (refine wpList_make_own _ rfl _ _ 24 rfl w.heap.size 26 i0 _ 9 Tryd.underlying24 hi0 hz0 hz1 .i64 .i64 (cap : Int) cap rfl rfl rfl ?k1 ?k2 (Nat.le_refl _) ?_)
  case k1 => rw [hz2]; omega
  case k2 => unfold maxLen; omega
  intro w2 O1 g1
  have HB2 := Lib.hid (show Below w.heap.size w w2 from (Below.refl _ _).grown g1 (Nat.le_refl _) (fun k hk => by cases hk))
  have HO2 := Lib.hid (show OwnX w2 w.heap.size (fun k => b ≤ k) (.slice (some ⟨w.heap.size, 0, none⟩) 0 cap) [] from ⟨[], O1, rfl, fun j r x h _ => by simp at h⟩)
  have HM2 := Lib.hid (H0.out.below HB2.out)
  clear O1 g1 hi0 hz0 hz1 hz2 hlen
  go_wp2_with fail
  refine (mapKeysX_any (some m) w2).mono ?_
  rintro e w3 ⟨rfl, rfl⟩
  go_wp2_with fail
  refine (skeys_any w2 m n b L HM2.out (by omega)).mono ?_
  rintro e w4 ⟨⟨q, c, rfl, hS, -⟩, hb⟩
  have B23 : Below w2.heap.size w2 (w2.alloc (.cells #[.map (some m)] 56)) := ext_alloc (ext_refl _) _
  have HB24 := Lib.hid (B23.trans (hb.mono B23.size))
  have HB4 := Lib.hid (HB2.out.trans (HB24.out.mono HB2.out.size))
  have HO4 := Lib.hid (HO2.out.later HB24.out)
  have HS := Lib.hid hS
  obtain ⟨len, hl⟩ : ∃ len, len = (sortE L).length := ⟨_, rfl⟩
  rw [← hl] at HSL ⊢
  have HLEN := Lib.hid hl
  have HW2 := Lib.hid (HO2.out.lt w.heap.size rfl).2
  clear hb hS B23 HB2 HO2 HM2 HB24 hl
  go_wp2_with fail
  obtain ⟨vs0, hvs⟩ : ∃ v, v = Value.slice (some ⟨w.heap.size, 0, none⟩) 0 cap := ⟨_, rfl⟩
  have HV0 := Lib.hid (show ∀ k, vs0.ownBlock = some k → k = w.heap.size ∨ w4.heap.size ≤ k by intro k hk; rw [hvs] at hk; cases hk; exact .inl rfl)
  rw [← hvs] at HO4 ⊢
  clear hvs
  have hll : len ≤ 1353245080340 := by have := HSL.out; omega
  go_loopw [3, 13] (fun v3 v13 wr => ∃ i : Nat, v13 = .int .i64 i ∧ i ≤ len ∧ Hid (OwnX wr w.heap.size (fun k => b ≤ k) v3 ((sortE L).take i) ∧ Below w.heap.size w wr ∧ StrsA wr w2.heap.size w4.heap.size q ((sortE L).map fun x => bsB x.print) ∧ w4.heap.size ≤ wr.heap.size ∧ ∀ k, v3.ownBlock = some k → k = w.heap.size ∨ w4.heap.size ≤ k)) (fun _ v13 _ => ((len : Int) - intOf v13).toNat)
  case atStart => exact ⟨0, rfl, Nat.zero_le _, HO4.out, HB4.out, HS.out, Nat.le_refl _, HV0.out⟩
  case round =>
    obtain ⟨i, rfl, hi, HH⟩ := hrel
    obtain ⟨V, hV⟩ : ∃ V, V = wr := ⟨_, rfl⟩
    rw [← hV] at HH
    rw [← hV]
    clear hV
    have HO := Lib.hid HH.out.1
    have HB := Lib.hid HH.out.2.1
    have HSV := Lib.hid HH.out.2.2.1
    have HZ := Lib.hid HH.out.2.2.2.1
    have HVB := Lib.hid HH.out.2.2.2.2
    clear HH HO4 HB4 HS HV0
    by_cases hlt : i < len
    · obtain ⟨x, hx⟩ : ∃ x, (sortE L)[i]? = some x := ⟨_, List.getElem?_eq_getElem (by rw [← HLEN.out]; exact hlt)⟩
      have HXL := Lib.hid (((sortE_is HOK.out).2 x).1 (List.mem_of_getElem? hx))
      obtain ⟨g, off, hq, hg1, hg2, hcell⟩ := HSV.out i (by rw [List.length_map, ← HLEN.out]; exact hlt)
      have hc := hcell i (bsB x.print) (by rw [List.getElem?_map, hx]; rfl)
      have HT := Lib.hid (show (sortE L).take (i + 1) = (sortE L).take i ++ [x] from take_snoc hx)
      have HTL := Lib.hid (show ((sortE L).take i).length = i by rw [List.length_take]; have := HLEN.out; omega)
      obtain ⟨r, hr1, hr2⟩ := HD2.out x HXL.out
      have HR2 := Lib.hid ((show ExMP w (fun k => b ≤ k ∧ u3.ownBlock ≠ some k) x r.cells from ExMP.on (Nat.le_refl _) (fun _ _ _ => rfl) (fun k hk hkw => ⟨hk.1, fun e => by have := (HO.out.lt k e).1; omega⟩) _ _ hr2).on HB.out.size (fun k _ hkw => HB.out.block k hkw) (fun _ h _ => h))
      have hsize : (bsB x.print).size ≤ 140737488355328 := Nat.le_trans (print_size (ExMP.toM _ _ hr2) (HRT.out x HXL.out)) (by decide)
      have hown : V.ownsMap Tryd.prog 9 rawX m n D := by
        have hl := HOW.out.lt
        obtain ⟨es, clock, hb, hr⟩ := HOW.out
        exact ⟨es, clock, by rw [HB.out.block m hl]; exact hb, hr⟩
      obtain ⟨vx, ps, hrun, hv⟩ := hown.lookup (string_keyed Tryd.underlying9) Tryd.underlying56 (Tryd.zeroExprX V) (zd := .held (.agg rawZ.cells.toArray)) (zp := []) rfl (key_ofX (bsB x.print) hsize)
      have hat : D.atKey (.string (bsB x.print).data.toList) (.held (.agg rawZ.cells.toArray)) = .held (.agg r.cells.toArray) := hr1 _
      rw [hat] at hv
      obtain ⟨rfl, rfl⟩ : vx = .agg r.cells.toArray ∧ ps = [] := by simpa [rawX] using hv
      subst hq
      obtain ⟨S, hS⟩ : ∃ S, S = bsB x.print := ⟨_, rfl⟩
      rw [← hS] at hc hrun
      obtain ⟨M, hM⟩ : ∃ M, M = (sortE L).take i := ⟨_, rfl⟩
      rw [← hM] at HO HT HTL
      clear hx hcell hr1 hr2 hown hv hat hS hM hsize
      obtain ⟨opz, ⟨vkz, vnz, vsz⟩, relz, colz, nz, sz, qz, lenz, cz⟩ := r
      simp only [Nat.mul_one] at hc
      have hc : V.cell? ⟨g, off + i, none⟩ = some (.string S) := hc
      have HO2 := Lib.hid (HO.out.later (ext_alloc (ext_refl V) (.cells (exCells opz ⟨vkz, vnz, vsz⟩ relz colz nz sz qz lenz cz).toArray 26)))
      have HR3 := Lib.hid (HR2.out.below (ext_alloc (ext_refl V) (.cells (exCells opz ⟨vkz, vnz, vsz⟩ relz colz nz sz qz lenz cz).toArray 26)))
      go_wp2_with (at_builtin; refine wp_append_y rfl _ _ rfl w.heap.size (fun k => b ≤ k) _ M rfl HO2.out i HTL.out.symm ⟨opz, ⟨vkz, vnz, vsz⟩, relz, colz, nz, sz, qz, lenz, cz⟩ x _ _ 0 (V.heap.size + 1) rfl (one_block RawE.cells_len 26 _ ⟨opz, ⟨vkz, vnz, vsz⟩, relz, colz, nz, sz, qz, lenz, cz⟩ rfl _ rfl) ?k1 ?k2 ?k3 ?_)
      case k1 => exact HR3.out
      case k2 => have := HSL.out; omega
      case k3 => exact Nat.le_trans HB.out.size (by simp)
      intro q3 c3 Y hO hbY hoY hown
      rw [← HT.out] at hO
      have HN := Lib.hid hO
      have HBY := Lib.hid ((HB.out.trans ((ext_alloc (ext_refl V) _).mono HB.out.size)).trans hbY)
      have HSY := Lib.hid (strs_out HSV.out (V' := Y) (fun k h1 h2 => (hoY.block k (by have := HZ.out; simp only [World.size_alloc]; omega) (fun e => by
        have h3 := HVB.out k e
        have h4 := HW2.out
        omega)).trans ((ext_alloc (ext_refl V) _).block k (by have := HZ.out; omega))))
      have HZY := Lib.hid (show w4.heap.size ≤ Y.heap.size by have h1 := HZ.out; have h2 := hoY.size; simp only [World.size_alloc] at h2; omega)
      have HVY := Lib.hid (show ∀ k, (Value.slice q3 (i + 1) c3).ownBlock = some k → k = w.heap.size ∨ w4.heap.size ≤ k by
        intro k hk
        rcases hown with h | h
        · exact HVB.out k (by rw [← h]; exact hk)
        · rw [h] at hk
          have h1 := HZ.out
          have h2 := Option.some.inj hk
          omega)
      clear hO hbY hoY hown HO HO2 HB HZ HVB HSV HR2 HR3 hc hrun
      go_wp2_with fail
      go_roundw
      case rel => exact ⟨i + 1, by go_num, hlt, HN.out, HBY.out, HSY.out, HZY.out, HVY.out⟩
      case measure => have h1 := HSL.out; simp [intOf] <;> omega
    · have HE := Lib.hid (show (sortE L).take i = sortE L by rw [show i = (sortE L).length by rw [← HLEN.out]; omega, List.take_length])
      rw [HE.out] at HO
      go_wp2_with fail
      refine bodyPost_ret (v := u3) (by simp [results, Tryd.results27, go_sem]) rfl ⟨⟨_, rfl, HO.out⟩, HB.out⟩
open Go.Lib
def rkN (set : Nat) (rel : Nat) : Nat := ((List.range rel).filter fun i => set.testBit i).length
theorem rkN_succ (set rel : Nat) : rkN set (rel + 1) = rkN set rel + (if set.testBit rel then 1 else 0) := by
  unfold rkN
  rw [List.range_succ, List.filter_append, List.length_append]
  cases h : set.testBit rel <;> simp [h]
theorem rkN_le (set rel : Nat) : rkN set rel ≤ rel := by
  unfold rkN
  refine Nat.le_trans (List.length_filter_le _ _) ?_
  simp
mutual
def Ex.rank (set : Nat) : Ex → Ex
  | .mk op v rel col n s l => .mk op v (if op = 2 then (rkN set rel.toNat : Int) else rel) col n s (rankL set l)
def rankL (set : Nat) : List Ex → List Ex
  | [] => []
  | x :: r => x.rank set :: rankL set r
end
theorem rankL_map (set : Nat) : ∀ l : List Ex, rankL set l = l.map (Ex.rank set)
  | [] => by rw [rankL]; rfl
  | x :: r => by rw [rankL, rankL_map set r]; rfl
theorem head_rank (set : Nat) {op : Int} {v : Val} {rel col n : Int} {s : ByteArray} {len : Nat} (h : headOk op v rel col n s len = true) : headOk op v (if op = 2 then (rkN set rel.toNat : Int) else rel) col n s len = true := by
  by_cases h2 : op = 2
  · subst h2
    have h1 := rel_ok h rfl
    have h3 := rkN_le set rel.toNat
    rw [if_pos rfl]
    unfold headOk at h ⊢
    simp only [Bool.and_eq_true, beq_iff_eq, Bool.or_eq_true, if_true, decide_eq_true_eq] at h ⊢
    obtain ⟨⟨h4, h5⟩, h6⟩ := h
    exact ⟨⟨h4, ⟨⟨by omega, by omega⟩, h5.1.2⟩, h5.2⟩, h6⟩
  · rw [if_neg h2]; exact h
mutual
theorem rank_ok (set : Nat) : ∀ x : Ex, x.okAll = true → (x.rank set).okAll = true ∧ (x.rank set).deep = x.deep ∧ (x.rank set).count = x.count
  | .mk op v rel col n s l, h => by
    rw [Ex.okAll, Bool.and_eq_true] at h
    obtain ⟨a0, a1, a2, a3⟩ := rankL_ok set l h.2
    rw [Ex.rank]
    refine ⟨?_, ?_, ?_⟩
    · rw [Ex.okAll, a0, a1, head_rank set h.1]; rfl
    · rw [Ex.deep, Ex.deep, a2]
    · rw [Ex.count, Ex.count, a3]
theorem rankL_ok (set : Nat) : ∀ l : List Ex, okL l = true → (rankL set l).length = l.length ∧ okL (rankL set l) = true ∧ deepL (rankL set l) = deepL l ∧ countL (rankL set l) = countL l
  | [], _ => by rw [rankL]; exact ⟨rfl, rfl, rfl, rfl⟩
  | x :: r, h => by
    rw [okL, Bool.and_eq_true] at h
    obtain ⟨h1, h2, h3⟩ := rank_ok set x h.1
    obtain ⟨a0, a1, a2, a3⟩ := rankL_ok set r h.2
    rw [rankL]
    refine ⟨by simp [a0], ?_, ?_, ?_⟩
    · rw [okL, h1, a1]; rfl
    · rw [deepL, deepL, h2, a2]
    · rw [countL, countL, h3, a3]
end
theorem rank_right (set : Nat) {x : Ex} (h : rightE x = true) : rightE (x.rank set) = true := by
  obtain ⟨h1, h2, h3⟩ := right_iff8.1 h
  obtain ⟨a, b, c⟩ := rank_ok set x h1
  exact right_iff8.2 ⟨a, by omega, by omega⟩
def inSet (set : Int) (x : Ex) : Bool := decide (0 ≤ set) && decide (tablesE x ≠ 0) && decide (tablesE x &&& set.toNat = tablesE x)
def withinE (set : Int) (L : List Ex) : List Nat := (List.range L.length).filter fun i => inSet set (L.getD i (.mk 0 zeroVal 0 0 0 ⟨#[]⟩ []))
def rankedE (set : Int) (L : List Ex) : List Ex := (L.filter (inSet set)).map (Ex.rank set.toNat)
theorem filter_snoc {L : List Ex} {i : Nat} {x : Ex} (p : Ex → Bool) (h : L[i]? = some x) : (L.take (i + 1)).filter p = (L.take i).filter p ++ (if p x then [x] else []) := by
  rw [take_snoc h, List.filter_append]
  cases hp : p x <;> simp [hp]
theorem within_snoc (set : Int) (L : List Ex) (i : Nat) (h : i < L.length) : ((List.range (i + 1)).filter fun i => inSet set (L.getD i (.mk 0 zeroVal 0 0 0 ⟨#[]⟩ []))) = ((List.range i).filter fun i => inSet set (L.getD i (.mk 0 zeroVal 0 0 0 ⟨#[]⟩ []))) ++ (if inSet set (L[i]'h) then [i] else []) := by
  rw [List.range_succ, List.filter_append]
  have e : L.getD i (.mk 0 zeroVal 0 0 0 ⟨#[]⟩ []) = L[i]'h := by rw [List.getD_eq_getElem?_getD, List.getElem?_eq_getElem h]; rfl
  congr 1
  cases hp : inSet set (L[i]'h)
  · rw [List.filter_cons, e, hp]; rfl
  · rw [List.filter_cons, e, hp]; rfl
theorem within_at (set : Int) (L : List Ex) : ∀ (m : Nat), m ≤ L.length → (((List.range m).filter fun i => inSet set (L.getD i (.mk 0 zeroVal 0 0 0 ⟨#[]⟩ []))).map fun i => L.getD i (.mk 0 zeroVal 0 0 0 ⟨#[]⟩ [])) = (L.take m).filter (inSet set)
  | 0, _ => by simp
  | m + 1, h => by
    have hm : m < L.length := by omega
    rw [within_snoc set L m hm, List.map_append, within_at set L m (by omega), filter_snoc (inSet set) (List.getElem?_eq_getElem hm)]
    congr 1
    have e : L.getD m (.mk 0 zeroVal 0 0 0 ⟨#[]⟩ []) = L[m]'hm := by rw [List.getD_eq_getElem?_getD, List.getElem?_eq_getElem hm]; rfl
    cases hp : inSet set (L[m]'hm)
    · rfl
    · show [L.getD m (.mk 0 zeroVal 0 0 0 ⟨#[]⟩ [])] = [_]; rw [e]
theorem within_is (set : Int) (L : List Ex) : ((withinE set L).map fun i => (L.getD i (.mk 0 zeroVal 0 0 0 ⟨#[]⟩ [])).rank set.toNat) = rankedE set L := by
  have h := within_at set L L.length (Nat.le_refl _)
  rw [List.take_length] at h
  unfold withinE rankedE
  rw [← h, List.map_map]
  rfl
theorem within_lt (set : Int) (L : List Ex) : ∀ i ∈ withinE set L, i < L.length := fun i hi => by
  unfold withinE at hi
  have := (List.mem_filter.1 hi).1
  simpa using this
theorem inSet_right {set : Int} {x : Ex} (h : inSet set x = true) : rightE x = true := by
  unfold inSet tablesE at h
  cases hr : rightE x
  · rw [hr] at h; simp at h
  · rfl
theorem ranked_right (set : Int) (L : List Ex) : (rankedE set L).all rightE = true := List.all_eq_true.2 fun y hy => by
  obtain ⟨x, hx, rfl⟩ := List.mem_map.1 hy
  exact rank_right _ (inSet_right (List.mem_filter.1 hx).2)
def tabsT (set : Nat) : Nat → List Int → Bs
  | _, [] => []
  | i, t :: r => (if set.testBit i then Lib.itoa t ++ [32] else []) ++ tabsT set (i + 1) r
def textsT : List Ex → Bs
  | [] => []
  | x :: r => x.print ++ (59 :: textsT r)
def partE (tabs : List Int) (core : Int) (L : List Ex) (set : Int) : Bool :=
  decide (1 ≤ core) && decide (core ≤ 4) && decide (core ≤ tabs.length) && decide (1 ≤ set) && decide (set < 2 ^ core.toNat) && L.all rightE
def ofE (tabs : List Int) (core : Int) (L : List Ex) (set : Int) : Bs × Int :=
  if partE tabs core L set = true then (83 :: (tabsT set.toNat 0 (tabs.take core.toNat) ++ textsT (sortE ((rankedE set L).map Ex.norm))), 0) else ([], 1)
open Go.RowKit Go.Maps Go.ChangeShapes Go.Deep
set_option maxRecDepth 100000
def errC (L : List Ex) : Int := if L.all rightE = true then 0 else 1
set_option maxHeartbeats 8000000 in
theorem dconds_any (L : List Ex) (q : Option Addr) (c : Nat) (w : World) (hL : ExL w q 0 L) (hn : L.length * 104 ≤ 140737488355328) (hG : GE w) :
    Calls Tryd.prog 12 #[.slice q L.length c] w fun e w' => (∃ ql cl, e = .returned (.tuple #[.slice ql (condsE L).length cl, .int .i64 (errC L)]) ∧ OwnX w' w.heap.size (fun k => w.heap.size ≤ k) (.slice ql (condsE L).length cl) (condsE L)) ∧ Below w.heap.size w w' := by
  have HN := Lib.hid (normals_any L q c w hL hn hG)
  obtain ⟨len, hlen⟩ : ∃ len, len = L.length := ⟨_, rfl⟩
  have HLEN := Lib.hid hlen
  rw [← hlen] at hn HN ⊢
  clear hL hG hlen
  go_enter Tryd.func12, Tryd.ntmps12
  go_wp2_with fail
  refine HN.out.mono ?_
  rintro e X ⟨⟨ha, m, rfl, hm, hM⟩ | ⟨ha, rfl⟩, hb⟩
  · have HB := Lib.hid hb
    have HM := Lib.hid hM
    have HMW := Lib.hid hm
    have HC := Lib.hid (show condsE L = sortE (L.map Ex.norm) by unfold condsE; rw [if_pos ha])
    have HE := Lib.hid (show errC L = 0 by unfold errC; rw [if_pos ha])
    have HA := Lib.hid (ascending_any X m len w.heap.size (L.map Ex.norm) hM hn (by rw [List.length_map, ← HLEN.out]; exact hn))
    clear ha hb hM hm
    go_wp2_with fail
    refine HA.out.mono ?_
    rintro e Y ⟨⟨v, rfl, hO⟩, hbY⟩
    have HBY := Lib.hid (HB.out.trans (hbY.mono HB.out.size))
    have HO := Lib.hid (hO.weaken (b' := w.heap.size) (Q := fun k => w.heap.size ≤ k) HB.out.size (fun k hk _ => hk))
    obtain ⟨ql, cl, rfl, -, -, -⟩ := hO.toL
    clear hO hbY
    obtain ⟨nl, hnl⟩ : ∃ n, n = (sortE (L.map Ex.norm)).length := ⟨_, rfl⟩
    rw [← hnl] at HO ⊢
    have HNL := Lib.hid hnl
    clear hnl
    go_wp2_with fail
    refine bodyPost_ret (v := .tuple #[.slice ql nl cl, .int .i64 0]) (by simp [results, Tryd.results12, go_sem]) rfl ⟨⟨ql, cl, ?_, ?_⟩, HBY.out⟩
    · rw [HC.out, HE.out, ← HNL.out]
    · rw [HC.out, ← HNL.out]; exact HO.out
  · have HB := Lib.hid hb
    have HC := Lib.hid (show condsE L = [] by unfold condsE; rw [if_neg (by rw [ha]; decide)])
    have HE := Lib.hid (show errC L = 1 by unfold errC; rw [if_neg (by rw [ha]; decide)])
    clear ha hb
    go_wp2_with fail
    refine bodyPost_ret (v := .tuple #[.slice none 0 0, .int .i64 1]) (by simp [results, Tryd.results12, go_sem]) rfl ⟨?_, HB.out⟩
    rw [HC.out, HE.out]
    exact ⟨none, 0, rfl, OwnX.nil _ _ _⟩
theorem andnot_zero (x y : BitVec 64) : x &&& ~~~y = 0#64 ↔ x &&& y = x := by
  constructor
  · intro h
    refine BitVec.eq_of_getLsbD_eq fun i hi => ?_
    have h1 := congrArg (fun z : BitVec 64 => z.getLsbD i) h
    simp [hi] at h1 ⊢
    exact h1
  · intro h
    refine BitVec.eq_of_getLsbD_eq fun i hi => ?_
    have h1 := congrArg (fun z : BitVec 64 => z.getLsbD i) h
    simp [hi] at h1 ⊢
    exact h1
theorem bits_andnot {t S : Nat} (ht : t < 65536) (hS : S < 9223372036854775808) : (bits .andNot .i64 (t : Int) (S : Int) == 0) = decide (t &&& S = t) := by
  have key : bits .andNot .i64 (t : Int) (S : Int) = IntKind.wrap .i64 ((BitVec.ofNat 64 t &&& ~~~ BitVec.ofNat 64 S).toNat : Int) := by
    change IntKind.wrap .i64 ((BitVec.ofInt 64 (t : Int) &&& ~~~ BitVec.ofInt 64 (S : Int)).toNat : Int) = _
    rw [BitVec.ofInt_natCast, BitVec.ofInt_natCast]
  have hle : (BitVec.ofNat 64 t &&& ~~~ BitVec.ofNat 64 S).toNat ≤ t := by
    rw [BitVec.toNat_and]
    refine Nat.le_trans Nat.and_le_left ?_
    rw [BitVec.toNat_ofNat]
    exact Nat.mod_le _ _
  have hz : (BitVec.ofNat 64 t &&& ~~~ BitVec.ofNat 64 S).toNat = 0 ↔ t &&& S = t := by
    rw [show (BitVec.ofNat 64 t &&& ~~~ BitVec.ofNat 64 S).toNat = 0 ↔ BitVec.ofNat 64 t &&& ~~~ BitVec.ofNat 64 S = 0#64 from ⟨fun h => BitVec.eq_of_toNat_eq (by rw [h]; rfl), fun h => by rw [h]; rfl⟩, andnot_zero]
    rw [← BitVec.toNat_inj, BitVec.toNat_and, BitVec.toNat_ofNat, BitVec.toNat_ofNat, Nat.mod_eq_of_lt (by omega), Nat.mod_eq_of_lt (by omega)]
  rw [key, IntKind.wrap_i64, Bool.eq_iff_iff, beq_iff_eq, decide_eq_true_eq, ← hz]
  try unfold wrap64
  omega
abbrev nCell (z : Int) : List Value := [.int .i64 z]
theorem nCell_len (z : Int) : (nCell z).length = 1 := rfl
theorem nCell_one (z : Int) (u : Value) (h : u ∈ nCell z) : u.oneCell' = true := by simp [nCell] at h; subst h; rfl
theorem Tryd.infoIntN : (Tryd.prog.info? 3).map (fun i => (i.zero, i.size, i.bytes)) = some (some (.int .i64 0), 1, 8) := by kernel_rfl
abbrev OwnN (w : World) (b : Nat) (v : Value) (l : List Int) : Prop := OwnF w b 3 1 nCell v l
set_option maxHeartbeats 16000000 in
theorem dwithin_any (L : List Ex) (q : Option Addr) (c : Nat) (set : Int) (w : World) (hL : ExL w q 0 L) (hn : L.length * 104 ≤ 140737488355328) (hG : GE w) (hs : inR set = true) :
    Calls Tryd.prog 16 #[.slice q L.length c, .int .i64 set] w fun e w' => (∃ v, e = .returned v ∧ OwnN w' w.heap.size v ((withinE set L).map fun i : Nat => (i : Int))) ∧ Below w.heap.size w w' := by
  have HL := Lib.hid hL
  have HG := Lib.hid hG
  obtain ⟨len, hlen⟩ : ∃ len, len = L.length := ⟨_, rfl⟩
  rw [← hlen] at hn ⊢
  have HLEN := Lib.hid hlen
  clear hL hG hlen
  by_cases h0 : set < 0
  · have HE := Lib.hid (show withinE set L = [] by
      unfold withinE
      refine List.filter_eq_nil_iff.2 fun i _ => ?_
      unfold inSet
      rw [decide_eq_false (by omega)]
      simp)
    go_enter Tryd.func16, Tryd.ntmps16
    go_wp2_with fail
    refine bodyPost_ret (v := .slice none 0 0) (by simp [results, Tryd.results16, go_sem]) rfl ⟨⟨_, rfl, ?_⟩, Below.refl _ _⟩
    rw [HE.out]
    exact OwnF.nil _ _ _
  · obtain ⟨S, hS⟩ : ∃ S : Nat, set = S := ⟨set.toNat, by omega⟩
    subst hS
    obtain ⟨hs1, hs2⟩ := inR_iff.1 hs
    have hS63 : S < 9223372036854775808 := by omega
    clear hs hs1 hs2 h0
    go_enter Tryd.func16, Tryd.ntmps16
    go_wp2_with fail
    go_loopw [5, 13] (fun v5 v13 wr => ∃ i : Nat, v13 = .int .i64 i ∧ i ≤ len ∧ Hid (OwnN wr w.heap.size v5 (((List.range i).filter fun i => inSet S (L.getD i (.mk 0 zeroVal 0 0 0 ⟨#[]⟩ []))).map fun i : Nat => (i : Int)) ∧ Below w.heap.size w wr)) (fun _ v13 _ => ((len : Int) - intOf v13).toNat)
    case atStart => exact ⟨0, rfl, Nat.zero_le _, OwnF.nil _ _ _, Below.refl _ _⟩
    case round =>
      obtain ⟨i, rfl, hi, HH⟩ := hrel
      obtain ⟨V, hV⟩ : ∃ V, V = wr := ⟨_, rfl⟩
      rw [← hV] at HH
      rw [← hV]
      clear hV
      have HO := Lib.hid HH.out.1
      have HB := Lib.hid HH.out.2
      clear HH
      by_cases hlt : i < len
      · have hiL : i < L.length := by rw [← HLEN.out]; exact hlt
        have hy : L[i]? = some (L[i]'hiL) := List.getElem?_eq_getElem hiL
        have HT := Lib.hid (within_snoc S L i hiL)
        obtain ⟨y, hye⟩ : ∃ y, y = L[i]'hiL := ⟨_, rfl⟩
        rw [← hye] at hy HT
        have hl_ := ExL.at_ (ExL.ext HB.out _ _ _ HL.out) hy
        obtain ⟨g0, off0, cs0, hq0, hg0, hx0, hcell⟩ := hl_
        subst hq0
        have HX0 := Lib.hid hx0
        obtain ⟨M, hM⟩ : ∃ M, M = ((List.range i).filter fun i => inSet S (L.getD i (.mk 0 zeroVal 0 0 0 ⟨#[]⟩ []))) := ⟨_, rfl⟩
        rw [← hM] at HO HT
        have HML := Lib.hid (show M.length ≤ i by rw [hM]; exact Nat.le_trans (List.length_filter_le _ _) (by simp))
        clear hy hM hye hiL
        obtain ⟨op1, v1, rel1, col1, n1, s1, l1⟩ := y
        rw [ExM.iff] at hx0
        obtain ⟨-, qq0, cc0, rfl, -, -⟩ := hx0
        have f0 := hcell 0 _ rfl
        have f1 := hcell 1 _ rfl
        have f2 := hcell 2 _ rfl
        have f3 := hcell 3 _ rfl
        have f4 := hcell 4 _ rfl
        have f5 := hcell 5 _ rfl
        have f6 := hcell 6 _ rfl
        have f7 := hcell 7 _ rfl
        have f8 := hcell 8 _ rfl
        simp only [Nat.zero_add, Nat.add_zero] at f0 f1 f2 f3 f4 f5 f6 f7 f8
        clear hcell
        go_wp2_with fail
        have B1 : Below V.heap.size V (V.alloc (.cells (exCells op1 v1 rel1 col1 n1 s1 qq0 l1.length cc0).toArray 26)) := ext_alloc (ext_refl _) _
        refine (dtables_any _ _ (V.alloc (.cells (exCells op1 v1 rel1 col1 n1 s1 qq0 l1.length cc0).toArray 26)) (ExM.ext B1 _ _ HX0.out) (HG.out.on (HB.out.trans (B1.mono HB.out.size)))).mono ?_
        rintro e X ⟨rfl, hbX⟩
        have HBX := Lib.hid (B1.trans (hbX.mono B1.size))
        have HIN := Lib.hid (show inSet S (.mk op1 v1 rel1 col1 n1 s1 l1) = (decide (tablesE (.mk op1 v1 rel1 col1 n1 s1 l1) ≠ 0) && decide (tablesE (.mk op1 v1 rel1 col1 n1 s1 l1) &&& S = tablesE (.mk op1 v1 rel1 col1 n1 s1 l1))) by unfold inSet; simp)
        have hTlt : tablesE (.mk op1 v1 rel1 col1 n1 s1 l1) < 65536 := by
          unfold tablesE
          cases hr : rightE (.mk op1 v1 rel1 col1 n1 s1 l1)
          · show 0 < 65536; decide
          · exact tabs_lt _ (right_iff8.1 hr).1
        obtain ⟨T, hTe⟩ : ∃ T, T = tablesE (.mk op1 v1 rel1 col1 n1 s1 l1) := ⟨_, rfl⟩
        rw [← hTe] at HIN hTlt ⊢
        have hAN := bits_andnot (S := S) hTlt hS63
        obtain ⟨Z, hZ⟩ : ∃ Z, bits .andNot .i64 (T : Int) (S : Int) = Z := ⟨_, rfl⟩
        rw [hZ] at hAN
        clear hTe B1 hbX f0 f1 f2 f3 f4 f5 f6 f7 f8
        have hll : i + 1 ≤ 1353245080340 := by omega
        cases hin : inSet S (.mk op1 v1 rel1 col1 n1 s1 l1) with
        | true =>
          have h1 := HIN.out
          rw [hin] at h1
          rw [eq_comm, Bool.and_eq_true, decide_eq_true_eq, decide_eq_true_eq] at h1
          have b1 : ((T : Int) != 0) = true := by rw [bne_iff_ne]; omega
          rw [decide_eq_true h1.2] at hAN
          rw [hin, if_pos rfl] at HT
          have HO2 := Lib.hid ((HO.out.later HBX.out).later (ext_alloc (ext_refl X) (.cells #[.int .i64 (i : Int)] 3)))
          have B2 := Lib.hid (HBX.out.trans ((ext_alloc (ext_refl X) (.cells #[.int .i64 (i : Int)] 3)).mono HBX.out.size))
          have hml : (M.map fun i : Nat => (i : Int)).length ≤ i := by rw [List.length_map]; exact HML.out
          obtain ⟨K, hK⟩ : ∃ K, K = M.map fun i : Nat => (i : Int) := ⟨_, rfl⟩
          rw [← hK] at HO2 hml
          have HK := Lib.hid hK
          clear h1 hin hK
          go_wp2_with (at_builtin; refine wp_append_flat rfl _ _ 40 3 rfl Tryd.underlying40 (.int .i64 0) 8 Tryd.infoIntN rfl (by decide) nCell_len nCell_one w.heap.size _ K rfl HO2.out _ 1 1 [(i : Int)] rfl rfl 0 (X.heap.size + 1) (one_block nCell_len 3 #[.int .i64 (i : Int)] (i : Int) rfl _ rfl) ?k1 ?k2 ?k3 ?_)
          case k1 => simp only [List.length_cons, List.length_nil]; unfold maxLen; omega
          case k2 => simp only [List.length_cons, List.length_nil]; omega
          case k3 => exact Nat.le_trans HB.out.size B2.out.size
          intro v' Y hO hbY hoY
          have HN := Lib.hid (show OwnN Y w.heap.size v' (((List.range (i + 1)).filter fun i => inSet S (L.getD i (.mk 0 zeroVal 0 0 0 ⟨#[]⟩ []))).map fun i : Nat => (i : Int)) by rw [HT.out, List.map_append, ← HK.out]; exact hO)
          have HBY := Lib.hid ((HB.out.trans (B2.out.mono HB.out.size)).trans hbY)
          clear hO hbY hoY HO HO2 B2 HBX HX0 HIN hml HK
          go_wp2_with fail
          go_roundw
          case rel => exact ⟨i + 1, by go_num, hlt, HN.out, HBY.out⟩
          case measure => simp [intOf] <;> omega
        | false =>
          have h1 := HIN.out
          rw [hin] at h1
          rw [hin, if_neg (by decide), List.append_nil] at HT
          have HN := Lib.hid (show OwnN X w.heap.size u5 (((List.range (i + 1)).filter fun i => inSet S (L.getD i (.mk 0 zeroVal 0 0 0 ⟨#[]⟩ []))).map fun i : Nat => (i : Int)) by rw [HT.out]; exact HO.out.later HBX.out)
          have HBY := Lib.hid (HB.out.trans (HBX.out.mono HB.out.size))
          by_cases h0 : T = 0
          · have b1 : ((T : Int) != 0) = false := by rw [h0]; rfl
            clear h1 hin HO HX0 HIN hAN hZ h0
            go_wp2_with fail
            go_roundw
            case rel => exact ⟨i + 1, by go_num, hlt, HN.out, HBY.out⟩
            case measure => simp [intOf] <;> omega
          · have b1 : ((T : Int) != 0) = true := by rw [bne_iff_ne]; omega
            rw [decide_eq_true h0, Bool.true_and] at h1
            rw [← h1] at hAN
            clear h1 hin HO HX0 HIN h0
            go_wp2_with fail
            go_roundw
            case rel => exact ⟨i + 1, by go_num, hlt, HN.out, HBY.out⟩
            case measure => simp [intOf] <;> omega
      · have HE := Lib.hid (show ((List.range i).filter fun i => inSet S (L.getD i (.mk 0 zeroVal 0 0 0 ⟨#[]⟩ []))) = withinE S L by rw [show i = L.length by rw [← HLEN.out]; omega]; rfl)
        rw [HE.out] at HO
        go_wp2_with fail
        refine bodyPost_ret (v := u5) (by simp [results, Tryd.results16, go_sem]) rfl ⟨⟨_, rfl, HO.out⟩, HB.out⟩
end Go.Proofs.YtklgoajgchfmeaaDoor
