/- What is kept last by a signature is told by it, whatever becomes of what was handed in, and of what was told; and by which there is something, rising: whatever the texts and the numbers. Conditions: none. -/
import Derived.Test.YtkeekefekajfnaaStNames
import Derived.Test.YtkeekefekajfnaaFlat
import Derived.Deep.OwnRows
import Derived.BigQuiet
namespace Go.Proofs.Ytkeekefekajfnaa
open Go.ChangeShapes Go.WideShapes Go.ChangeAt Go.RowKit Go.Joins
set_option maxRecDepth 100000

/-- A block of numbers that may be written: the first n, whatever they are. -/
def RowZ (w : World) (q : Option Addr) (n : Nat) : Prop := 0 < n → ∃ g cap f, q = some ⟨g, 0, none⟩ ∧ n ≤ cap ∧ w.rowIs g 3 cap f ∧ ∀ i, i < n → ∃ z : Int, f i = .int .i64 z
theorem OwnF.rowZ {w : World} {base : Nat} {q : Option Addr} {n c : Nat} {l : List Int} (h : OwnF w base 3 1 intCell (.slice q n c) l) : RowZ w q l.length := by
  intro h0
  obtain ⟨h1, h2⟩ := h
  rcases h2 with ⟨_, h2⟩ | ⟨g, cap, cur, hv, hb, hg, hn, hmx, hsz, htk⟩
  · omega
  · obtain ⟨rfl, -, -⟩ : q = some ⟨g, 0, none⟩ ∧ n = l.length ∧ c = cap := by simpa using hv
    rw [Nat.mul_one] at hsz htk
    refine ⟨g, cap, fun j => cur[j]?.getD undef, rfl, hn, ⟨cur, hg, hsz, fun i hi => ?_⟩, fun i hi => ?_⟩
    · show cur[i]? = some (cur[i]?.getD undef)
      rw [Array.getElem?_eq_getElem (by omega)]
      rfl
    · obtain ⟨x, hx⟩ : ∃ x, l[i]? = some x := ⟨_, List.getElem?_eq_getElem hi⟩
      have hf := flat_at intCell_len l i 0 x (.int .i64 x) hx rfl
      have := congrArg (fun l => l[i]?) htk
      simp only [List.getElem?_take, if_pos hi] at this
      refine ⟨x, ?_⟩
      show cur[i]?.getD undef = _
      rw [← Array.getElem?_toList, this]
      rw [Nat.mul_one, Nat.add_zero] at hf
      rw [hf]
      rfl

theorem bytes_less : ∀ (x y : List UInt8), Op.bytesLess x y = decide (x < y)
  | [], [] => by simp [Op.bytesLess]
  | _ :: _, [] => by simp [Op.bytesLess]
  | [], _ :: _ => by simp [Op.bytesLess]
  | a :: x, b :: y => by
    rw [Op.bytesLess, bytes_less x y, Bool.eq_iff_iff]
    simp [List.cons_lt_cons_iff]
theorem txt_le_no {x u : List UInt8} (h : u < x) : (Op.bytesLess x u || x == u) = false := by
  rw [bytes_less]
  have h1 : ¬ x < u := List.lt_asymm h
  have h2 : x ≠ u := fun e => List.lt_irrefl _ (e ▸ h)
  simp [h1, h2]

/-- n numbers that may be written, whatever they are, in a block from base on. -/
def WrZ (w : World) (base : Nat) (q : Option Addr) (n : Nat) : Prop := 0 < n → ∃ g off, q = some ⟨g, off, none⟩ ∧ base ≤ g ∧ g < w.heap.size ∧ (∀ j, j < n → ∃ z : Int, w.cell? ⟨g, off + j, none⟩ = some (.int .i64 z)) ∧ ∀ o, w.frozen? ⟨g, o, none⟩ = false
theorem WrZ.set {w : World} {base : Nat} {g off n k : Nat} (h : WrZ w base (some ⟨g, off, none⟩) n) (hk : k < n) (z : Int) : WrZ (w.setCell ⟨g, off + k, none⟩ (.int .i64 z)) base (some ⟨g, off, none⟩) n := by
  intro h0
  obtain ⟨g', off', e, h1, h2, h3, h4⟩ := h h0
  obtain ⟨rfl, rfl⟩ : g = g' ∧ off = off' := by simpa using e
  refine ⟨g, off, rfl, h1, by simpa [World.setCell] using h2, fun j hj => ?_, fun o => by rw [World.frozen?_setCell]; exact h4 o⟩
  by_cases ej : j = k
  · subst ej
    obtain ⟨z0, hz⟩ := h3 j hj
    exact ⟨z, World.cell?_setCell_same _ _ _ hz⟩
  · obtain ⟨z0, hz⟩ := h3 j hj
    exact ⟨z0, (World.cell?_setCell_other _ _ _ _ (fun e => ej (by injection e with _ h; omega))).trans hz⟩
theorem WrZ.keep {S : Nat → Prop} {w w' : World} {base : Nat} {q : Option Addr} {n : Nat} (h : WrZ w base q n) (o : Out S w w') (hS : ∀ k, S k → k < base) : WrZ w' base q n := by
  intro h0
  obtain ⟨g, off, e, h1, h2, h3, h4⟩ := h h0
  have hb := o.block g h2 (fun hs => by have := hS g hs; omega)
  exact ⟨g, off, e, h1, Nat.lt_of_lt_of_le h2 o.size, fun j hj => by
    obtain ⟨z, hz⟩ := h3 j hj
    exact ⟨z, (World.cell?_of_block (w := w) (a := ⟨g, off + j, none⟩) hb).trans hz⟩, fun o' => (World.frozen?_of_block (w := w) (a := ⟨g, o', none⟩) hb).trans (h4 o')⟩
theorem OwnF.wrZ {w : World} {base : Nat} {q : Option Addr} {n c : Nat} {l : List Int} (h : OwnF w base 3 1 intCell (.slice q n c) l) : WrZ w base q l.length := by
  intro h0
  obtain ⟨q', c', e, _, _, hf, ha⟩ := h.arr intCell_len
  obtain ⟨rfl, -, rfl⟩ : q = q' ∧ n = l.length ∧ c = c' := by simpa using e
  obtain ⟨g, off, rfl, h1, h2, hc⟩ := ha 0 h0
  obtain ⟨rfl, _, _, hz⟩ := hf g off rfl
  refine ⟨g, 0, rfl, h1, h2, fun j hj => ⟨l[j], ?_⟩, hz⟩
  have := hc j l[j] (List.getElem?_eq_getElem hj) 0 _ rfl
  rwa [Nat.mul_one, Nat.add_zero] at this

/-- What is kept behind the first i signatures. -/
def keptN (SG : List ByteArray) (LS : Lists) : Nat → Kept
  | 0 => fun _ => none
  | i + 1 => match SG[i]?, LS[i]? with
    | some s, some l => (keptN SG LS i).put s.data.toList [l, []]
    | _, _ => keptN SG LS i
theorem keptN_succ {SG : List ByteArray} {LS : Lists} {i : Nat} {s : ByteArray} {l : List Int} (hs : SG[i]? = some s) (hl : LS[i]? = some l) : keptN SG LS (i + 1) = (keptN SG LS i).put s.data.toList [l, []] := by
  show (match SG[i]?, LS[i]? with | some s, some l => (keptN SG LS i).put s.data.toList [l, []] | _, _ => keptN SG LS i) = _
  rw [hs, hl]
/-- The last of a text's places tells what is kept. -/
theorem keptN_last {SG : List ByteArray} {LS : Lists} {t : List UInt8} {k : Nat} {s : ByteArray} {l : List Int} (hs : SG[k]? = some s) (hl : LS[k]? = some l) (ht : s.data.toList = t) : ∀ (n : Nat), k < n → n ≤ SG.length → n ≤ LS.length → (∀ j, k < j → j < n → ∀ x, SG[j]? = some x → x.data.toList ≠ t) → keptN SG LS n t = some [l, []]
  | 0, h, _, _, _ => absurd h (Nat.not_lt_zero _)
  | n + 1, h, h1, h2, hn => by
    obtain ⟨s', hs'⟩ : ∃ s', SG[n]? = some s' := ⟨_, List.getElem?_eq_getElem (by omega)⟩
    obtain ⟨l', hl'⟩ : ∃ l', LS[n]? = some l' := ⟨_, List.getElem?_eq_getElem (by omega)⟩
    rw [keptN_succ hs' hl']
    unfold Kept.put
    by_cases e : k = n
    · subst e
      rw [hs] at hs'
      rw [hl] at hl'
      cases hs'
      cases hl'
      rw [if_pos ht.symm]
    · rw [if_neg (fun e2 => hn n (by omega) (by omega) s' hs' e2.symm)]
      exact keptN_last hs hl ht n (by omega) (by omega) (by omega) (fun j h3 h4 => hn j h3 (by omega))
theorem keptN_none {SG : List ByteArray} {LS : Lists} {t : List UInt8} : ∀ (n : Nat), n ≤ SG.length → n ≤ LS.length → (∀ j, j < n → ∀ x, SG[j]? = some x → x.data.toList ≠ t) → keptN SG LS n t = none
  | 0, _, _, _ => rfl
  | n + 1, h1, h2, hn => by
    obtain ⟨s', hs'⟩ : ∃ s', SG[n]? = some s' := ⟨_, List.getElem?_eq_getElem (by omega)⟩
    obtain ⟨l', hl'⟩ : ∃ l', LS[n]? = some l' := ⟨_, List.getElem?_eq_getElem (by omega)⟩
    rw [keptN_succ hs' hl']
    unfold Kept.put
    rw [if_neg (fun e => hn n (by omega) s' hs' e.symm)]
    exact keptN_none n (by omega) (by omega) (fun j h3 => hn j (by omega))
theorem keptN_some {SG : List ByteArray} {LS : Lists} {t : List UInt8} : ∀ (n : Nat), n ≤ SG.length → n ≤ LS.length → ((keptN SG LS n t).isSome = true ↔ ∃ j x, j < n ∧ SG[j]? = some x ∧ x.data.toList = t)
  | 0, _, _ => ⟨fun h => (by simp [keptN] at h), fun ⟨j, _, h, _⟩ => absurd h (Nat.not_lt_zero _)⟩
  | n + 1, h1, h2 => by
    obtain ⟨s', hs'⟩ : ∃ s', SG[n]? = some s' := ⟨_, List.getElem?_eq_getElem (by omega)⟩
    obtain ⟨l', hl'⟩ : ∃ l', LS[n]? = some l' := ⟨_, List.getElem?_eq_getElem (by omega)⟩
    rw [keptN_succ hs' hl']
    unfold Kept.put
    by_cases e : t = s'.data.toList
    · rw [if_pos e]
      exact ⟨fun _ => ⟨n, s', by omega, hs', e.symm⟩, fun _ => rfl⟩
    · rw [if_neg e, keptN_some n (by omega) (by omega)]
      constructor
      · rintro ⟨j, x, h3, h4, h5⟩
        exact ⟨j, x, by omega, h4, h5⟩
      · rintro ⟨j, x, h3, h4, h5⟩
        refine ⟨j, x, ?_, h4, h5⟩
        rcases Nat.lt_or_ge j n with h | h
        · exact h
        · have : j = n := by omega
          subst this
          rw [hs'] at h4
          cases h4
          exact absurd h5.symm e

set_option maxHeartbeats 4000000 in
theorem keeps_walk {StP : World → (Nat → Prop) → Nat → List Tab → Kept → Nat → Prop} (C : StoreC StP) (q1 q2 : Option Addr) (c1 c2 : Nat) (SG : List ByteArray) (LS : Lists) (ot : ByteArray) (w : World) (hc1 : SG.length ≤ c1) (hm1 : c1 ≤ 9223372036854775807) (hc2 : LS.length ≤ c2) (hm2 : c2 ≤ 9223372036854775807)
    (hS : StrsA w 0 w.heap.size q1 SG) (hL : ListsA w 0 w.heap.size q2 LS) (hsz : ∀ x ∈ SG, x.size ≤ 140737488355328) (hlz : ∀ x ∈ LS, x.length * 8 ≤ 140737488355328) (hoz : ot.size ≤ 140737488355328) :
    Calls Try.prog 5 #[.slice q1 SG.length c1, .slice q2 LS.length c2, .string ot] w fun e w' => e = .returned (.bool true) ∧ Below w.heap.size w w' := by
  have HS := Lib.hid hS
  have HL := Lib.hid hL
  have HSZ := Lib.hid hsz
  have HLZ := Lib.hid hlz
  clear hS hL hsz hlz
  have key : ∀ n : Int, n = min (min (SG.length : Int) (LS.length : Int)) 40 → ∃ N : Nat, n = (N : Int) ∧ N ≤ SG.length ∧ N ≤ LS.length ∧ N ≤ 40 := fun n h => ⟨n.toNat, by omega, by omega, by omega, by omega⟩
  obtain ⟨N, hN, hN1, hN2, hN3⟩ := key _ rfl
  clear key
  have hmin : ∀ (ty : TypeId) (W : World), (Builtin.min_ #[3, 3, 3] ty #[.int .i64 SG.length, .int .i64 LS.length, .int .i64 40]).run Try.prog W = .ok (.int .i64 N) W := by
    intro ty W
    go_simp
    repeat' split
    all_goals (try simp)
    all_goals omega
  have HNN := Lib.hid hN
  clear hN
  go_enter Try.func5, Try.ntmps5
  go_wp2_with fail
  refine (ex5_any C _).mono ?_
  rintro e w1 ⟨rfl, hb1⟩
  have E1 := Lib.hid hb1
  have hs1 := hb1.size
  clear hb1
  go_wp2_with fail
  refine (C.open_ [] none 0 0 0 w1 (Nat.le_refl _) (by omega) (fun i hi => absurd hi (by simp)) (Nat.zero_le _)).mono ?_
  rintro e w2 ⟨hb2, ⟨_, p, S, rfl, hSt, hlow⟩ | ⟨hno, _⟩⟩
  · have st : ∃ S, StP w2 S p [] (keptN SG LS 0) 0 ∧ (∀ k, S k → w.heap.size ≤ k) ∧ Below w.heap.size w w2 := ⟨S, hSt, fun k h => Nat.le_trans hs1 (hlow k h), E1.out.trans (hb2.mono hs1)⟩
    have ST := Lib.hid st
    clear hSt hlow hb2 st E1
    go_wp2_with fail
    clear hmin
    go_loopw [11] (fun vi wr => ∃ i : Nat, vi = .int .i64 i ∧ i ≤ N ∧ Hid (∃ S, StP wr S p [] (keptN SG LS i) i ∧ (∀ k, S k → w.heap.size ≤ k) ∧ Below w.heap.size w wr)) (fun vi _ => N - (intOf vi).toNat)
    case atStart => exact ⟨0, rfl, Nat.zero_le _, ST.out⟩
    case round =>
      obtain ⟨i, rfl, hi, HH⟩ := hrel
      obtain ⟨V, hV⟩ : ∃ V, V = wr := ⟨_, rfl⟩
      subst hV
      by_cases hlt : i < N
      · obtain ⟨S, hSt, hlow, hB⟩ := HH.out
        obtain ⟨g1, o1, rfl, _, hg1, hcS⟩ := HS.out i (by omega)
        obtain ⟨g2, o2, rfl, _, hg2, hcL⟩ := HL.out i (by omega)
        obtain ⟨s, hs⟩ : ∃ s, SG[i]? = some s := ⟨_, List.getElem?_eq_getElem (by omega)⟩
        obtain ⟨l, hl⟩ : ∃ l, LS[i]? = some l := ⟨_, List.getElem?_eq_getElem (by omega)⟩
        obtain ⟨pl, cl, hcell, hcl, hcl2, hI⟩ := hcL i l hl
        rw [Nat.mul_one] at hcell
        have hcs := hcS i s hs
        rw [Nat.mul_one] at hcs
        have CS := Lib.hid (show ∀ W, Below w.heap.size w W → W.cell? ⟨g1, o1 + i, none⟩ = some (.string s) from fun W h => (h.cell (p := ⟨g1, _, none⟩) (show g1 < w.heap.size by omega)).trans hcs)
        have a1 := (hB.cell (p := ⟨g2, o2 + i, none⟩) (show g2 < w.heap.size by omega)).trans hcell
        have hsz := HSZ.out s (List.mem_of_getElem? hs)
        have hlz := HLZ.out l (List.mem_of_getElem? hl)
        have HSL := Lib.hid (And.intro hs hl)
        have HI := Lib.hid (hI.same (Same.of hB (Nat.le_refl _)))
        have H0 := Lib.hid (And.intro hSt (And.intro hlow hB))
        have hsV := hB.size
        clear hcS hcL hs hl hcell hcs hI HH hSt hlow hB
        go_wp2_with (at_builtin; refine wp_append_flat rfl _ _ 50 3 rfl Try.underlying50 (.int .i64 0) 8 Try.infoInt5 rfl (by omega) intCell_len intCell_one V.heap.size _ [] rfl (OwnF.nil _ _ _) _ _ _ l rfl rfl 0 w.heap.size (intsA_flat HI.out) ?l1 ?l2 (Nat.le_refl _) ?_)
        case l1 => unfold maxLen; simp; omega
        case l2 => simp; omega
        intro v3 w3 O3 b3 _
        have O3 : OwnF w3 V.heap.size 3 1 intCell v3 l := O3
        obtain ⟨q3, c3, rfl, hl3, hm3, hf3, ha3⟩ := O3.arr intCell_len
        have hs3 := b3.size
        obtain ⟨W, hW⟩ : ∃ W, W = w3.alloc (.cells #[.slice q3 l.length c3, .slice none 0 0] 50) := ⟨_, rfl⟩
        have hbV : Below V.heap.size V W := by rw [hW]; exact b3.trans (((Below.refl _ _).alloc (Nat.le_refl _) _).mono hs3)
        have hsW : W.heap.size = w3.heap.size + 1 := by rw [hW]; simp
        have HQ := Lib.hid (show ∀ g off, q3 = some ⟨g, off, none⟩ → V.heap.size ≤ g ∧ g < w3.heap.size from fun g off e => ⟨(hf3 g off e).2.1, (hf3 g off e).2.2.1⟩)
        have hown : ListsA W V.heap.size W.heap.size (some ⟨w3.heap.size, 0, none⟩) [l, []] := fun j hj => ⟨w3.heap.size, 0, rfl, hs3, by omega, fun n x hx => by
          have hn2 : n < 2 := (List.getElem?_eq_some_iff.1 hx).1
          match n, hn2 with
          | 0, _ =>
            obtain rfl : l = x := by simpa using hx
            refine ⟨q3, c3, by rw [hW, Lib.cell_of_heap (heap_alloc_new w3 _)]; rfl, hl3, hm3, ?_⟩
            refine ((flat_intsA ha3).same (Same.of (N := w3.heap.size) (by rw [hW]; exact (Below.refl _ _).alloc (Nat.le_refl _) _) (Nat.le_refl _))).wide (Nat.le_refl _) (by omega)
          | 1, _ =>
            obtain rfl : [] = x := by simpa using hx
            exact ⟨none, 0, by rw [hW, Lib.cell_of_heap (heap_alloc_new w3 _)]; rfl, Nat.le_refl _, by omega, fun i hi => absurd hi (by simp)⟩⟩
        have hg3 : g1 < w3.heap.size := by omega
        have HW := Lib.hid (And.intro hW (And.intro hown (And.intro hbV O3.wrZ)))
        have E3 := Lib.hid (show Below w.heap.size w W from H0.out.2.2.trans (hbV.mono hsV))
        have a2' := CS.out w3 (H0.out.2.2.trans (b3.mono hsV))
        clear hW hown hbV ha3 hf3 O3 b3 a1
        go_wp2_with fail
        rw [← HW.out.1]
        have hbV := HW.out.2.2.1
        have hSV := C.low H0.out.1
        have hStW := C.keep H0.out.1 (Out.of (S := fun _ => False) hbV) (fun _ h => h.elim)
        refine (C.put W S p [] (keptN SG LS i) i s [l, []] (some ⟨w3.heap.size, 0, none⟩) 2 V.heap.size W.heap.size hStW (by omega) hsz (by simp) (by omega) (by simp) (fun x hx => ?_) HW.out.2.1 (Nat.le_refl _)).mono ?_
        · simp at hx
          rcases hx with rfl | rfl
          · exact hlz
          · simp
        rintro e w4 ⟨rfl, ⟨S', hS', hsub⟩, o4⟩
        rw [← keptN_succ HSL.out.1 HSL.out.2] at hS'
        have hs4 := o4.size
        have h4 : Hid (StP w4 S' p [] (keptN SG LS (i + 1)) (i + 1) ∧ w4.cell? ⟨w3.heap.size, 0, none⟩ = some (.slice q3 l.length c3) ∧ WrZ w4 V.heap.size q3 l.length ∧ Below w.heap.size w w4) := by
          refine ⟨hS', ?_, ?_, E3.out.trans (o4.below E3.out.size (fun k h => H0.out.2.1 k h))⟩
          · refine (World.cell?_of_block (w := W) (a := ⟨w3.heap.size, 0, none⟩) (o4.block w3.heap.size (by omega) (fun h => by have := hSV _ h; omega))).trans ?_
            rw [HW.out.1, Lib.cell_of_heap (heap_alloc_new w3 _)]
            rfl
          · refine (HW.out.2.2.2.keep (Out.of (S := fun _ => False) (b := W) ?_) (fun _ h => h.elim)).keep o4 (fun k h => hSV k h)
            rw [HW.out.1]
            exact (Below.refl _ _).alloc (Nat.le_refl _) _
        have HS' := Lib.hid (show (∀ k, S' k → k < V.heap.size ∨ W.heap.size ≤ k) ∧ ∀ k, S' k → w.heap.size ≤ k from ⟨fun k h => (hsub k h).imp (hSV k) id, fun k h => (hsub k h).elim (H0.out.2.1 k) (fun h => by omega)⟩)
        clear hS' hsub o4 hStW hSV hbV H0 HW HI a2'
        go_wp2_with fail
        go_loopw [13] (fun vk wx => ∃ k : Nat, vk = .int .i64 k ∧ k ≤ l.length ∧ Hid (StP wx S' p [] (keptN SG LS (i + 1)) (i + 1) ∧ wx.cell? ⟨w3.heap.size, 0, none⟩ = some (.slice q3 l.length c3) ∧ WrZ wx V.heap.size q3 l.length ∧ Below w.heap.size w wx)) (fun vk _ => l.length - (intOf vk).toNat)
        case atStart => exact ⟨0, rfl, Nat.zero_le _, h4.out⟩
        case round =>
          obtain ⟨k, rfl, hk, HK⟩ := hrel
          have c0 := HK.out.2.1
          clear h4
          by_cases hkl : k < l.length
          · obtain ⟨g3, o3, hq3, hg3a, hg3b, hz3, hf3⟩ := HK.out.2.2.1 (by omega)
            obtain ⟨z0, hz0⟩ := hz3 k hkl
            have hQ := HQ.out g3 o3 hq3
            subst hq3
            have HZ := Lib.hid hz3
            clear hz3
            go_wp2_with fail
            go_roundw
            case rel =>
              refine ⟨k + 1, by go_num, hkl, C.keep HK.out.1 (Out.set (S := fun b => b = g3) ⟨g3, o3 + k, none⟩ _ rfl) (fun b e h => ?_), ?_, HK.out.2.2.1.set hkl _, HK.out.2.2.2.setCell (show w.heap.size ≤ g3 by omega) _⟩
              · subst e
                have := HS'.out.1 b h
                omega
              · exact (World.cell?_setCell_far _ _ _ _ (show g3 ≠ w3.heap.size by omega)).trans HK.out.2.1
            case measure => simp [intOf] <;> omega
          · have hke : k = l.length := by omega
            subst hke
            obtain ⟨X, hX⟩ : ∃ X, X = wr := ⟨_, rfl⟩
            subst hX
            have hStX := HK.out.1
            have hBX := HK.out.2.2.2
            have hsX := hBX.size
            have a4 := CS.out X hBX
            have HX := Lib.hid (And.intro hStX hBX)
            clear HK hStX hBX
            by_cases he : (i : Int) % 2 = 0
            · have hF : keptN SG LS (i + 1) s.data.toList = some [l, []] := by
                rw [keptN_succ HSL.out.1 HSL.out.2]
                simp [Kept.put]
              have hkept : Calls Try.prog 21 #[.pointer (some ⟨p, 0, none⟩), .string s] X fun e w' => (∃ q c, e = .returned (.tuple #[.slice q 2 c, .bool true]) ∧ OwnLists w' X.heap.size q c [l, []]) ∧ Below X.heap.size X w' := by
                have := C.kept X S' p [] _ (i + 1) s HX.out.1 hsz
                rw [hF] at this
                exact this
              have HKC := Lib.hid hkept
              clear hkept hF
              go_wp2_with fail
              refine HKC.out.mono ?_
              rintro e w6 ⟨⟨q6, c6, rfl, hO6⟩, hb6⟩
              obtain ⟨g6, o6, rfl, hg6, hg6b, p6, k6, hc6, hl6, hk6, hI6⟩ := hO6.arr.at_ (show 0 < 2 by omega)
              rw [Nat.zero_mul, Nat.add_zero] at hc6
              have hfr := hO6.free g6 o6 rfl 0 l rfl p6 l.length k6 hc6
              have hs6 := hb6.size
              have h6 : Hid (StP w6 S' p [] (keptN SG LS (i + 1)) (i + 1) ∧ w6.cell? ⟨g6, o6, none⟩ = some (.slice p6 l.length k6) ∧ WrZ w6 X.heap.size p6 l.length ∧ Below w.heap.size w w6) := by
                refine ⟨C.keep HX.out.1 (Out.of (S := fun _ => False) hb6) (fun _ h => h.elim), hc6, fun h0 => ?_, HX.out.2.trans (hb6.mono hsX)⟩
                obtain ⟨g, off, e, a, b, hc⟩ := hI6 0 h0
                exact ⟨g, off, e, a, b, fun j hj => ⟨l[j], by have := hc j l[j] (List.getElem?_eq_getElem hj); rwa [Nat.mul_one] at this⟩, hfr h0 g off e⟩
              have hlowX := C.low HX.out.1
              have HLX := Lib.hid hlowX
              clear hO6 hb6 hc6 hI6 hfr HKC a4 c0 hlowX
              go_wp2_with fail
              go_loopw [16] (fun vk wy => ∃ k : Nat, vk = .int .i64 k ∧ k ≤ 1 ∧ Hid (StP wy S' p [] (keptN SG LS (i + 1)) (i + 1) ∧ wy.cell? ⟨g6, o6, none⟩ = some (.slice p6 l.length k6) ∧ WrZ wy X.heap.size p6 l.length ∧ Below w.heap.size w wy)) (fun vk _ => 1 - (intOf vk).toNat)
              case atStart => exact ⟨0, rfl, by omega, h6.out⟩
              case round =>
                obtain ⟨k, rfl, hk, HK⟩ := hrel
                clear h6
                by_cases hk1 : k < 1
                · obtain rfl : k = 0 := by omega
                  have c0 := HK.out.2.1
                  have H7 := Lib.hid HK.out
                  clear HK
                  go_wp2_with fail
                  go_loopw [17] (fun vj wz => ∃ j : Nat, vj = .int .i64 j ∧ j ≤ l.length ∧ Hid (StP wz S' p [] (keptN SG LS (i + 1)) (i + 1) ∧ wz.cell? ⟨g6, o6, none⟩ = some (.slice p6 l.length k6) ∧ WrZ wz X.heap.size p6 l.length ∧ Below w.heap.size w wz)) (fun vj _ => l.length - (intOf vj).toNat)
                  case atStart => exact ⟨0, rfl, Nat.zero_le _, H7.out⟩
                  case round =>
                    obtain ⟨j, rfl, hj, HJ⟩ := hrel
                    clear c0 H7
                    have c1 := HJ.out.2.1
                    by_cases hjl : j < l.length
                    · obtain ⟨g7, o7, hq7, hg7a, hg7b, hz7, hf7⟩ := HJ.out.2.2.1 (by omega)
                      obtain ⟨z0, hz0⟩ := hz7 j hjl
                      subst hq7
                      have HZ := Lib.hid hz7
                      clear hz7
                      go_wp2_with fail
                      go_roundw
                      case rel =>
                        refine ⟨j + 1, by go_num, hjl, C.keep HJ.out.1 (Out.set (S := fun b => b = g7) ⟨g7, o7 + j, none⟩ _ rfl) (fun b e h => ?_), ?_, HJ.out.2.2.1.set hjl _, HJ.out.2.2.2.setCell (show w.heap.size ≤ g7 by omega) _⟩
                        · subst e
                          have := HLX.out b h
                          omega
                        · refine (World.cell?_setCell_other _ _ _ _ (fun e => ?_)).trans HJ.out.2.1
                          rw [e, HJ.out.2.1] at hz0
                          cases hz0
                      case measure => simp [intOf] <;> omega
                    · have hje : j = l.length := by omega
                      subst hje
                      go_wp2_with fail
                      go_roundw
                      case rel => exact ⟨1, by go_num, by omega, HJ.out⟩
                      case measure => simp [intOf] <;> omega
                · have hk2 : k = 1 := by omega
                  subst hk2
                  go_wp2_with fail
                  go_roundw
                  case rel => exact ⟨i + 1, by go_num, hlt, S', HK.out.1, HS'.out.2, HK.out.2.2.2⟩
                  case measure => simp [intOf] <;> omega
            · go_wp2_with fail
              go_roundw
              case rel => exact ⟨i + 1, by go_num, hlt, S', HX.out.1, HS'.out.2, HX.out.2⟩
              case measure => simp [intOf] <;> omega
      · have hiN : i = N := by omega
        subst hiN
        obtain ⟨S, hSt, hlow, hB⟩ := HH.out
        have HV := Lib.hid (And.intro hSt hB)
        clear HH hSt hB ST
        go_wp2_with fail
        go_loopw [18, 19] (fun vt vi wr => ∃ (n : Nat) (b : Bool), vt = .bool b ∧ vi = .int .i64 n ∧ n ≤ i ∧ Hid ((b = true ↔ ∃ (j : Nat) (x : ByteArray), j < n ∧ SG[j]? = some x ∧ x.data.toList = ot.data.toList) ∧ StP wr S p [] (keptN SG LS i) i ∧ Below w.heap.size w wr)) (fun _ vi _ => i - (intOf vi).toNat)
        case atStart => exact ⟨0, false, rfl, rfl, Nat.zero_le _, ⟨fun h => (by cases h), fun ⟨j, _, h, _⟩ => absurd h (Nat.not_lt_zero _)⟩, HV.out⟩
        case round =>
          obtain ⟨n, b, rfl, rfl, hn, HT⟩ := hrel
          clear HV
          by_cases hni : n < i
          · obtain ⟨Y, hY⟩ : ∃ Y, Y = wr := ⟨_, rfl⟩
            subst hY
            obtain ⟨g1, o1, rfl, _, hg1, hcS⟩ := HS.out n (by omega)
            obtain ⟨s, hs⟩ : ∃ s, SG[n]? = some s := ⟨_, List.getElem?_eq_getElem (by omega)⟩
            have CS := Lib.hid (show ∀ W, Below w.heap.size w W → ∀ (j : Nat) (x : ByteArray), SG[j]? = some x → W.cell? ⟨g1, o1 + j, none⟩ = some (.string x) from fun W h j x hx => by
              have := hcS j x hx
              rw [Nat.mul_one] at this
              exact (h.cell (p := ⟨g1, _, none⟩) (show g1 < w.heap.size by omega)).trans this)
            have HSS := Lib.hid hs
            have hsz := HSZ.out s (List.mem_of_getElem? hs)
            have hsY := HT.out.2.2.size
            clear hcS hs
            go_wp2_with fail
            go_loopw [20, 21] (fun vl vk wy => ∃ m k : Nat, vl = .int .i64 m ∧ vk = .int .i64 k ∧ m < i ∧ k ≤ i ∧ n ≤ k ∧ Hid ((∃ y, SG[m]? = some y ∧ y.data.toList = s.data.toList) ∧ (∀ j, m < j → j < k → ∀ y, SG[j]? = some y → y.data.toList ≠ s.data.toList) ∧ Below Y.heap.size Y wy)) (fun _ vk _ => i - (intOf vk).toNat)
            case atStart => exact ⟨n, n, rfl, rfl, hni, hn, Nat.le_refl _, ⟨s, HSS.out, rfl⟩, fun j h1 h2 => absurd h1 (by omega), Below.refl _ _⟩
            case round =>
              obtain ⟨m, k, rfl, rfl, hm, hk, hnk, HM⟩ := hrel
              by_cases hki : k < i
              · obtain ⟨y, hy⟩ : ∃ y, SG[k]? = some y := ⟨_, List.getElem?_eq_getElem (by omega)⟩
                have hBr : Below w.heap.size w wr := HT.out.2.2.trans (HM.out.2.2.mono hsY)
                have a1 := CS.out wr hBr k y hy
                have a2 := CS.out wr hBr n s HSS.out
                have HYY := Lib.hid hy
                have hkS : k < SG.length := by omega
                clear hy hBr
                by_cases e : y.toList = s.toList
                · have eb : (y.toList == s.toList) = true := by simpa using e
                  have EE := Lib.hid e
                  clear e
                  go_wp2_with fail
                  go_big_quiet (fail)
                  go_wp2
                  go_roundw
                  case rel =>
                    exact ⟨k, k + 1, rfl, by go_num, hki, hki, by omega, ⟨y, HYY.out, by have := EE.out; rwa [ByteArray.toList_eq, ByteArray.toList_eq] at this⟩, fun j h1 h2 => absurd h1 (by omega), HM.out.2.2.trans ((ext_drewN (ext_refl wr) nq).mono HM.out.2.2.size)⟩
                  case measure => simp [intOf] <;> omega
                · have eb : (y.toList == s.toList) = false := by simpa using e
                  have EE := Lib.hid e
                  clear e
                  go_wp2_with fail
                  go_big_quiet (fail)
                  go_wp2
                  go_roundw
                  case rel =>
                    refine ⟨m, k + 1, rfl, by go_num, hm, hki, by omega, HM.out.1, fun j h1 h2 y' hy' => ?_, HM.out.2.2.trans ((ext_drewN (ext_refl wr) nq).mono HM.out.2.2.size)⟩
                    by_cases ej : j = k
                    · subst ej
                      rw [HYY.out] at hy'
                      cases hy'
                      have := EE.out
                      rwa [ByteArray.toList_eq, ByteArray.toList_eq] at this
                    · exact HM.out.2.1 j h1 (by omega) y' hy'
                  case measure => simp [intOf] <;> omega
              · have hke : k = i := by omega
                subst hke
                have hmy := HM.out.1
                obtain ⟨lm, hlm⟩ : ∃ lm, LS[m]? = some lm := ⟨_, List.getElem?_eq_getElem (by omega)⟩
                obtain ⟨y, hy1, hy2⟩ := hmy
                have hF : keptN SG LS k s.data.toList = some [lm, []] := keptN_last hy1 hlm hy2 k hm hN1 hN2 HM.out.2.1
                obtain ⟨g2, o2, rfl, _, hg2, hcL⟩ := HL.out m (by omega)
                obtain ⟨pl, cl, hcell, hcl, hcl2, hIL⟩ := hcL m lm hlm
                rw [Nat.mul_one] at hcell
                have hmL : m < List.length LS := by omega
                have CL := Lib.hid (show ∀ W, Below w.heap.size w W → W.cell? ⟨g2, o2 + m, none⟩ = some (.slice pl lm.length cl) from fun W h => (h.cell (p := ⟨g2, _, none⟩) (show g2 < w.heap.size by omega)).trans hcell)
                have HIL := Lib.hid hIL
                have hBr : Below w.heap.size w wr := HT.out.2.2.trans (HM.out.2.2.mono hsY)
                have hsr := hBr.size
                have HBr := Lib.hid hBr
                have hSr := C.keep HT.out.2.1 (Out.of (S := fun _ => False) HM.out.2.2) (fun _ h => h.elim)
                have HSr := Lib.hid hSr
                have hkept : Calls Try.prog 21 #[.pointer (some ⟨p, 0, none⟩), .string s] wr fun e w' => (∃ q c, e = .returned (.tuple #[.slice q 2 c, .bool true]) ∧ OwnLists w' wr.heap.size q c [lm, []]) ∧ Below wr.heap.size wr w' := by
                  have := C.kept wr S p [] _ k s hSr hsz
                  rw [hF] at this
                  exact this
                have HKC := Lib.hid hkept
                have a1 := CS.out wr hBr n s HSS.out
                have nb : ∀ b' : Bool, (b' = true ↔ (b = true ∨ s.toList = ot.toList)) → Hid (b' = true ↔ ∃ (j : Nat) (x : ByteArray), j < n + 1 ∧ SG[j]? = some x ∧ x.data.toList = ot.data.toList) := fun b' hb' => by
                  show b' = true ↔ _
                  rw [hb', HT.out.1]
                  constructor
                  · rintro (⟨j, x, h1, h2, h3⟩ | h)
                    · exact ⟨j, x, by omega, h2, h3⟩
                    · rw [ByteArray.toList_eq, ByteArray.toList_eq] at h
                      exact ⟨n, s, by omega, HSS.out, h⟩
                  · rintro ⟨j, x, h1, h2, h3⟩
                    by_cases ej : j = n
                    · subst ej
                      rw [HSS.out] at h2
                      cases h2
                      exact .inr (by rw [ByteArray.toList_eq, ByteArray.toList_eq]; exact h3)
                    · exact .inl ⟨j, x, by omega, h2, h3⟩
                have NX := Lib.hid nb
                clear hy1 hy2 hlm hcL hIL hcell hBr hSr hkept hF nb HM HT
                cases b with
                | true =>
                  have NB := NX.out true (by simp)
                  go_wp2_with fail
                  refine HKC.out.mono ?_
                  rintro e w6 ⟨⟨q6, c6, rfl, hO6⟩, hb6⟩
                  obtain ⟨g6, o6, rfl, hg6, hg6b, p6, k6, hc6, hl6, hk6, hI6⟩ := hO6.arr.at_ (show 0 < 2 by omega)
                  obtain ⟨g6', o6', hq6, _, _, p7, k7, hc7, _, _, _⟩ := hO6.arr.at_ (show 1 < 2 by omega)
                  obtain ⟨rfl, rfl⟩ : g6 = g6' ∧ o6 = o6' := by simpa using hq6
                  rw [Nat.zero_mul, Nat.add_zero] at hc6
                  rw [Nat.one_mul] at hc7
                  have hc7 : w6.cell? ⟨g6, o6 + 1, none⟩ = some (.slice p7 0 k7) := hc7
                  have hs6 := hb6.size
                  have hc6 : w6.cell? ⟨g6, o6, none⟩ = some (.slice p6 lm.length k6) := hc6
                  have hI6 : IntsA w6 wr.heap.size w6.heap.size p6 lm := hI6
                  have hB6 : Below w.heap.size w w6 := HBr.out.trans (hb6.mono hsr)
                  have hc8 := CL.out w6 hB6
                  have H6 := Lib.hid (show StP w6 S p [] (keptN SG LS k) k ∧ Below w.heap.size w w6 ∧ IntsA w6 wr.heap.size w6.heap.size p6 lm ∧ w6.cell? ⟨g6, o6, none⟩ = some (.slice p6 lm.length k6) from ⟨C.keep HSr.out (Out.of (S := fun _ => False) hb6) (fun _ h => h.elim), hB6, hI6, hc6⟩)
                  clear hO6 hb6 hI6 hB6
                  go_wp2_with fail
                  go_big_quiet (fail)
                  go_wp2_with fail
                  clear hc6 hc7 hc8
                  go_loopw [24] (fun vk wz => ∃ t : Nat, vk = .int .i64 t ∧ t ≤ lm.length ∧ Hid (Below w6.heap.size w6 wz)) (fun vk _ => lm.length - (intOf vk).toNat)
                  case atStart => exact ⟨0, rfl, Nat.zero_le _, (ext_drewN (ext_refl w6) nq)⟩
                  case round =>
                    obtain ⟨t, rfl, ht, HZ⟩ := hrel
                    have hBz : Below w.heap.size w wr := H6.out.2.1.trans (HZ.out.mono (Nat.le_trans hsr hs6))
                    have hc6 := (HZ.out.cell (p := ⟨g6, o6, none⟩) hg6b).trans H6.out.2.2.2
                    have hc8 := CL.out wr hBz
                    by_cases htl : t < lm.length
                    · obtain ⟨ga, oa, rfl, _, hga, hca⟩ := H6.out.2.2.1 t htl
                      obtain ⟨gb, ob, rfl, _, hgb, hcb⟩ := HIL.out t htl
                      have ha := hca t lm[t] (List.getElem?_eq_getElem htl)
                      have hb := hcb t lm[t] (List.getElem?_eq_getElem htl)
                      obtain ⟨z, hz⟩ : ∃ z, z = lm[t] := ⟨_, rfl⟩
                      rw [← hz] at ha hb
                      unfold intC at ha hb
                      rw [Nat.mul_one] at ha hb
                      have ha' := (HZ.out.cell (p := ⟨ga, oa + t, none⟩) hga).trans ha
                      have hb' := (hBz.cell (p := ⟨gb, ob + t, none⟩) (show gb < w.heap.size by omega)).trans hb
                      clear hca hcb ha hb hz
                      go_wp2_with fail
                      go_big_quiet (fail)
                      go_wp2
                      go_roundw
                      case rel => exact ⟨t + 1, by go_num, htl, HZ.out.trans ((ext_drewN (ext_refl wr) nq).mono HZ.out.size)⟩
                      case measure => simp [intOf] <;> omega
                    · have hte : t = lm.length := by omega
                      subst hte
                      have nx := Lib.hid (show StP wr S p [] (keptN SG LS k) k ∧ Below w.heap.size w wr from ⟨C.keep H6.out.1 (Out.of (S := fun _ => False) HZ.out) (fun _ h => h.elim), hBz⟩)
                      go_wp2_with fail
                      go_roundw
                      case rel => exact ⟨n + 1, true, rfl, by go_num, hni, (by have h := NB.out; first | exact h | simpa using h), nx.out⟩
                      case measure => simp [intOf] <;> omega
                | false =>
                  by_cases es : s.toList = ot.toList
                  · have eb : (s.toList == ot.toList) = true := by simpa using es
                    have NB := NX.out true (by simpa using es)
                    clear es
                    go_wp2_with fail
                    refine HKC.out.mono ?_
                    rintro e w6 ⟨⟨q6, c6, rfl, hO6⟩, hb6⟩
                    obtain ⟨g6, o6, rfl, hg6, hg6b, p6, k6, hc6, hl6, hk6, hI6⟩ := hO6.arr.at_ (show 0 < 2 by omega)
                    obtain ⟨g6', o6', hq6, _, _, p7, k7, hc7, _, _, _⟩ := hO6.arr.at_ (show 1 < 2 by omega)
                    obtain ⟨rfl, rfl⟩ : g6 = g6' ∧ o6 = o6' := by simpa using hq6
                    rw [Nat.zero_mul, Nat.add_zero] at hc6
                    rw [Nat.one_mul] at hc7
                    have hc7 : w6.cell? ⟨g6, o6 + 1, none⟩ = some (.slice p7 0 k7) := hc7
                    have hs6 := hb6.size
                    have hc6 : w6.cell? ⟨g6, o6, none⟩ = some (.slice p6 lm.length k6) := hc6
                    have hI6 : IntsA w6 wr.heap.size w6.heap.size p6 lm := hI6
                    have hB6 : Below w.heap.size w w6 := HBr.out.trans (hb6.mono hsr)
                    have hc8 := CL.out w6 hB6
                    have H6 := Lib.hid (show StP w6 S p [] (keptN SG LS k) k ∧ Below w.heap.size w w6 ∧ IntsA w6 wr.heap.size w6.heap.size p6 lm ∧ w6.cell? ⟨g6, o6, none⟩ = some (.slice p6 lm.length k6) from ⟨C.keep HSr.out (Out.of (S := fun _ => False) hb6) (fun _ h => h.elim), hB6, hI6, hc6⟩)
                    clear hO6 hb6 hI6 hB6
                    go_wp2_with fail
                    go_big_quiet (fail)
                    go_wp2_with fail
                    clear hc6 hc7 hc8
                    go_loopw [24] (fun vk wz => ∃ t : Nat, vk = .int .i64 t ∧ t ≤ lm.length ∧ Hid (Below w6.heap.size w6 wz)) (fun vk _ => lm.length - (intOf vk).toNat)
                    case atStart => exact ⟨0, rfl, Nat.zero_le _, (ext_drewN (ext_refl w6) nq)⟩
                    case round =>
                      obtain ⟨t, rfl, ht, HZ⟩ := hrel
                      have hBz : Below w.heap.size w wr := H6.out.2.1.trans (HZ.out.mono (Nat.le_trans hsr hs6))
                      have hc6 := (HZ.out.cell (p := ⟨g6, o6, none⟩) hg6b).trans H6.out.2.2.2
                      have hc8 := CL.out wr hBz
                      by_cases htl : t < lm.length
                      · obtain ⟨ga, oa, rfl, _, hga, hca⟩ := H6.out.2.2.1 t htl
                        obtain ⟨gb, ob, rfl, _, hgb, hcb⟩ := HIL.out t htl
                        have ha := hca t lm[t] (List.getElem?_eq_getElem htl)
                        have hb := hcb t lm[t] (List.getElem?_eq_getElem htl)
                        obtain ⟨z, hz⟩ : ∃ z, z = lm[t] := ⟨_, rfl⟩
                        rw [← hz] at ha hb
                        unfold intC at ha hb
                        rw [Nat.mul_one] at ha hb
                        have ha' := (HZ.out.cell (p := ⟨ga, oa + t, none⟩) hga).trans ha
                        have hb' := (hBz.cell (p := ⟨gb, ob + t, none⟩) (show gb < w.heap.size by omega)).trans hb
                        clear hca hcb ha hb hz
                        go_wp2_with fail
                        go_big_quiet (fail)
                        go_wp2
                        go_roundw
                        case rel => exact ⟨t + 1, by go_num, htl, HZ.out.trans ((ext_drewN (ext_refl wr) nq).mono HZ.out.size)⟩
                        case measure => simp [intOf] <;> omega
                      · have hte : t = lm.length := by omega
                        subst hte
                        have nx := Lib.hid (show StP wr S p [] (keptN SG LS k) k ∧ Below w.heap.size w wr from ⟨C.keep H6.out.1 (Out.of (S := fun _ => False) HZ.out) (fun _ h => h.elim), hBz⟩)
                        go_wp2_with fail
                        go_roundw
                        case rel => exact ⟨n + 1, true, rfl, by go_num, hni, (by have h := NB.out; first | exact h | simpa using h), nx.out⟩
                        case measure => simp [intOf] <;> omega
                  · have eb : (s.toList == ot.toList) = false := by simpa using es
                    have NB := NX.out false (by simpa using es)
                    clear es
                    go_wp2_with fail
                    refine HKC.out.mono ?_
                    rintro e w6 ⟨⟨q6, c6, rfl, hO6⟩, hb6⟩
                    obtain ⟨g6, o6, rfl, hg6, hg6b, p6, k6, hc6, hl6, hk6, hI6⟩ := hO6.arr.at_ (show 0 < 2 by omega)
                    obtain ⟨g6', o6', hq6, _, _, p7, k7, hc7, _, _, _⟩ := hO6.arr.at_ (show 1 < 2 by omega)
                    obtain ⟨rfl, rfl⟩ : g6 = g6' ∧ o6 = o6' := by simpa using hq6
                    rw [Nat.zero_mul, Nat.add_zero] at hc6
                    rw [Nat.one_mul] at hc7
                    have hc7 : w6.cell? ⟨g6, o6 + 1, none⟩ = some (.slice p7 0 k7) := hc7
                    have hs6 := hb6.size
                    have hc6 : w6.cell? ⟨g6, o6, none⟩ = some (.slice p6 lm.length k6) := hc6
                    have hI6 : IntsA w6 wr.heap.size w6.heap.size p6 lm := hI6
                    have hB6 : Below w.heap.size w w6 := HBr.out.trans (hb6.mono hsr)
                    have hc8 := CL.out w6 hB6
                    have H6 := Lib.hid (show StP w6 S p [] (keptN SG LS k) k ∧ Below w.heap.size w w6 ∧ IntsA w6 wr.heap.size w6.heap.size p6 lm ∧ w6.cell? ⟨g6, o6, none⟩ = some (.slice p6 lm.length k6) from ⟨C.keep HSr.out (Out.of (S := fun _ => False) hb6) (fun _ h => h.elim), hB6, hI6, hc6⟩)
                    clear hO6 hb6 hI6 hB6
                    go_wp2_with fail
                    go_big_quiet (fail)
                    go_wp2_with fail
                    clear hc6 hc7 hc8
                    go_loopw [24] (fun vk wz => ∃ t : Nat, vk = .int .i64 t ∧ t ≤ lm.length ∧ Hid (Below w6.heap.size w6 wz)) (fun vk _ => lm.length - (intOf vk).toNat)
                    case atStart => exact ⟨0, rfl, Nat.zero_le _, (ext_drewN (ext_refl w6) nq)⟩
                    case round =>
                      obtain ⟨t, rfl, ht, HZ⟩ := hrel
                      have hBz : Below w.heap.size w wr := H6.out.2.1.trans (HZ.out.mono (Nat.le_trans hsr hs6))
                      have hc6 := (HZ.out.cell (p := ⟨g6, o6, none⟩) hg6b).trans H6.out.2.2.2
                      have hc8 := CL.out wr hBz
                      by_cases htl : t < lm.length
                      · obtain ⟨ga, oa, rfl, _, hga, hca⟩ := H6.out.2.2.1 t htl
                        obtain ⟨gb, ob, rfl, _, hgb, hcb⟩ := HIL.out t htl
                        have ha := hca t lm[t] (List.getElem?_eq_getElem htl)
                        have hb := hcb t lm[t] (List.getElem?_eq_getElem htl)
                        obtain ⟨z, hz⟩ : ∃ z, z = lm[t] := ⟨_, rfl⟩
                        rw [← hz] at ha hb
                        unfold intC at ha hb
                        rw [Nat.mul_one] at ha hb
                        have ha' := (HZ.out.cell (p := ⟨ga, oa + t, none⟩) hga).trans ha
                        have hb' := (hBz.cell (p := ⟨gb, ob + t, none⟩) (show gb < w.heap.size by omega)).trans hb
                        clear hca hcb ha hb hz
                        go_wp2_with fail
                        go_big_quiet (fail)
                        go_wp2
                        go_roundw
                        case rel => exact ⟨t + 1, by go_num, htl, HZ.out.trans ((ext_drewN (ext_refl wr) nq).mono HZ.out.size)⟩
                        case measure => simp [intOf] <;> omega
                      · have hte : t = lm.length := by omega
                        subst hte
                        have nx := Lib.hid (show StP wr S p [] (keptN SG LS k) k ∧ Below w.heap.size w wr from ⟨C.keep H6.out.1 (Out.of (S := fun _ => False) HZ.out) (fun _ h => h.elim), hBz⟩)
                        go_wp2_with fail
                        go_roundw
                        case rel => exact ⟨n + 1, false, rfl, by go_num, hni, (by have h := NB.out; first | exact h | simpa using h), nx.out⟩
                        case measure => simp [intOf] <;> omega
          · have hne : n = i := by omega
            subst hne
            obtain ⟨hbi, hSt, hB⟩ := HT.out
            have hsr := hB.size
            have HB0 := Lib.hid (And.intro hbi hB)
            have HST := Lib.hid hSt
            clear HT hbi hSt hB
            go_wp2_with fail
            refine (C.signs wr S p [] _ n HST.out).mono ?_
            rintro e w7 ⟨⟨qk, ck, K, rfl, hK1, hK2, hKA, hKn, hKp, hKm⟩, hb7⟩
            have hs7 := hb7.size
            have HKA := Lib.hid hKA
            have HKP := Lib.hid hKp
            have HKM := Lib.hid hKm
            have H7 := Lib.hid (show StP w7 S p [] (keptN SG LS n) n ∧ Below w.heap.size w w7 from ⟨C.keep HST.out (Out.of (S := fun _ => False) hb7) (fun _ h => h.elim), HB0.out.2.trans (hb7.mono hsr)⟩)
            clear hKA hKp hKm hb7 HST
            go_wp2_with fail
            go_loopw [26] (fun vi wz => ∃ t : Nat, vi = .int .i64 ((t : Int) + 1) ∧ t ≤ K.length ∧ Hid (Below w7.heap.size w7 wz)) (fun vi _ => K.length + 1 - (intOf vi).toNat)
            case atStart => exact ⟨0, rfl, Nat.zero_le _, Below.refl _ _⟩
            case round =>
              obtain ⟨t, rfl, ht, HZ⟩ := hrel
              by_cases htl : t + 1 < K.length
              · obtain ⟨ga, oa, rfl, _, hga, hca⟩ := HKA.out (t + 1) htl
                obtain ⟨x, hx⟩ : ∃ x, x = K[t + 1] := ⟨_, rfl⟩
                obtain ⟨u, hu⟩ : ∃ u, u = K[t]'(by omega) := ⟨_, rfl⟩
                have ha := hca (t + 1) x (by rw [hx]; exact List.getElem?_eq_getElem htl)
                have hb := hca t u (by rw [hu]; exact List.getElem?_eq_getElem (by omega))
                have hp := List.pairwise_iff_getElem.1 HKP.out t (t + 1) (by omega) htl (by omega)
                rw [← hx, ← hu] at hp
                unfold strC at ha hb
                rw [Nat.mul_one] at ha hb
                have ha' := (HZ.out.cell (p := ⟨ga, oa + (t + 1), none⟩) hga).trans ha
                have hb' := (HZ.out.cell (p := ⟨ga, oa + t, none⟩) hga).trans hb
                have hle : (Op.bytesLess x.toList u.toList || x.toList == u.toList) = false := by
                  rw [ByteArray.toList_eq, ByteArray.toList_eq]
                  exact txt_le_no hp
                have hw0 : IntKind.i64.wrap (t : Int) = (t : Int) := by rw [IntKind.wrap_i64]; omega
                have hlt2 : (t : Int) + 1 < (K.length : Int) := by omega
                have htl3 : (t : Int) < (K.length : Int) := by omega
                clear hca ha hb hp hx hu
                go_wp2_with fail
                go_big_quiet (fail)
                go_wp2
                go_roundw
                case rel => exact ⟨t + 1, by go_num, by omega, HZ.out.trans ((ext_drewN (ext_refl wr) nq).mono HZ.out.size)⟩
                case measure => simp [intOf] <;> omega
              · have hnl : ¬ (t : Int) + 1 < (K.length : Int) := by omega
                have HB8 := Lib.hid (show StP wr S p [] (keptN SG LS n) n ∧ Below w.heap.size w wr from ⟨C.keep H7.out.1 (Out.of (S := fun _ => False) HZ.out) (fun _ h => h.elim), H7.out.2.trans (HZ.out.mono (by omega))⟩)
                clear HZ H7
                go_wp2_with fail
                refine (C.kept wr S p [] _ n ot HB8.out.1 hoz).mono ?_
                rintro e w9 ⟨⟨q9, c9, rfl, _⟩, hb9⟩
                have hbo : b = (keptN SG LS n ot.data.toList).isSome := Bool.eq_iff_iff.2 (HB0.out.1.trans (keptN_some n hN1 hN2).symm)
                have E9 := Lib.hid (HB8.out.2.trans (hb9.mono HB8.out.2.size))
                have hpos : n = 0 ∨ 0 < K.length := by
                  rcases Nat.eq_zero_or_pos n with h | h
                  · exact .inl h
                  · right
                    have hs0 : (keptN SG LS n (SG[0]'(by omega)).data.toList).isSome = true := (keptN_some n hN1 hN2).2 ⟨0, _, h, List.getElem?_eq_getElem (by omega), rfl⟩
                    have := (HKM.out _).2 hs0
                    obtain ⟨y, hy, _⟩ := List.mem_map.1 this
                    exact List.length_pos_of_mem hy
                obtain ⟨ob, hob⟩ : ∃ ob, ob = (keptN SG LS n ot.data.toList).isSome := ⟨_, rfl⟩
                rw [← hob] at hbo
                rw [← hob]
                subst hbo
                have hKn2 : (K.length : Int) ≤ (n : Int) := by omega
                have HOB := Lib.hid hob
                clear hb9 hob
                rcases hpos with h0 | h0
                · subst h0
                  have hK0 : K = [] := List.length_eq_zero_iff.1 (by omega)
                  subst hK0
                  go_wp2
                  all_goals go_ret
                  all_goals exact ⟨rfl, E9.out⟩
                · have h0i : (0 : Int) < (K.length : Int) := by omega
                  by_cases hn0 : (n : Int) = 0
                  · have hq : ((n : Int) == 0) = true := by simpa using hn0
                    go_wp2
                    all_goals go_ret
                    all_goals exact ⟨rfl, E9.out⟩
                  · have hq : ((n : Int) == 0) = false := by simpa using hn0
                    go_wp2
                    all_goals go_ret
                    all_goals exact ⟨rfl, E9.out⟩
  · exact absurd ⟨by simp, fun i t h => by simp at h⟩ hno

/- FRAME -/

set_option maxRecDepth 100000 in
theorem storeKeeps_lifted (os : Os) (started : os.Started) (H : Type) (enc : TypeId × Value → H) :
    ReturnsInHanded {} Try.checked os 5 .any (Rows.storeKeepsSpec.pre6 enc Try.prog Try.f5 Rows.storeKeepsRow.domain false) (Rows.storeKeepsSpec.post enc Try.prog Try.f5 false true false false) := by
  refine returnsInHanded_of_change_sized (C := Try.checked) Try.own started (by kernel_rfl) Try.func5
    (ChangeSpec.witness6 (enc := enc) (C := Try.checked) false ⟨#[], #[.slice none 0 0, .slice none 0 0, .string ⟨#[]⟩], []⟩ 8 (by kernel_rfl) (by kernel_rfl) (by kernel_rfl) (by kernel_rfl)) ?_
  intro W base args ds gs before hval0 hW _ hsz _
  have hval : ∀ (j : Nat) t v, Try.f5.params[j]? = some t → args[j]? = some v → Value.okWide Try.prog W .any base t v := hval0
  have hW' := hW
  obtain ⟨p, q, hA0, hV, rfl, _, _⟩ := hW
  have hA : DataW.TrodAll enc Try.prog W 0 (fun _ => true) true Try.f5.params.toList args.toList ds p := hA0
  rw [Try.params5] at hA hval hsz
  obtain ⟨v0, v1, v2, d0, d1, d2, p0, p1, p2, rfl, rfl, rfl, h0, h1, h2⟩ := trodAll_three hA
  obtain ⟨q0, L0, c0, rfl, le0, m0, tx0, tr0⟩ := open_strs (hval 0 48 v0 rfl rfl) h0 (fun n hn => of_decide_eq_true (List.all_eq_true.1 hsz _ (DataW.weights_mem_each (j := 0) (t := 48) rfl rfl n hn)))
  obtain ⟨q1, L1, c1, rfl, le1, m1, tx1, tr1⟩ := open_lists (hval 1 49 v1 rfl rfl) h1 (fun n hn => of_decide_eq_true (List.all_eq_true.1 hsz _ (DataW.weights_mem_each (j := 1) (t := 49) rfl rfl n hn)))
  obtain ⟨s2, rfl, zs2⟩ := open_word6 (hval 2 9 v2 rfl rfl) h2 (fun n hn => of_decide_eq_true (List.all_eq_true.1 hsz _ (DataW.weights_mem_each (j := 2) (t := 9) rfl rfl n hn)))
  clear hA0 hval0
  refine (keeps_walk storeC q0 q1 c0 c1 L0 L1 s2 W le0 m0 le1 m1 tx0 tx1 (fun x hx => by have h9 := tr0 x hx; unfold reachBytes at h9; omega) (fun x hx => by have h9 := tr1 x hx; unfold reachBytes at h9; omega) (by unfold reachBytes at zs2; omega)).mono fun e W' ⟨he, hb⟩ => ⟨_, he, post_law rfl hW' rfl rfl ?_ hb⟩
  intro t ht
  rw [Try.params5] at ht
  simp only [List.mem_cons, List.not_mem_nil, or_false] at ht
  rcases ht with rfl | rfl | rfl <;> exact ⟨by kernel_rfl, of_decide_eq_true (by kernel_rfl)⟩

theorem storeKeeps_holds : Rows.StoreKeepsSaid :=
  OpenClaim.holds_of_wide 5 Try.f5 rfl rfl rfl rfl rfl rfl rfl ⟨rfl, rfl, rfl, rfl, rfl⟩ rfl rfl rfl rfl rfl (by kernel_rfl) Try.func5 (by kernel_rfl)
    (of_decide_eq_true (by kernel_rfl)) (by unfold Func.isWrapper; rw [if_neg (of_decide_eq_false (by kernel_rfl))]; exact ⟨rfl, rfl⟩)
    (fun os started H enc _ => storeKeeps_lifted os started H enc)

#print axioms storeKeeps_holds

end Go.Proofs.Ytkeekefekajfnaa
