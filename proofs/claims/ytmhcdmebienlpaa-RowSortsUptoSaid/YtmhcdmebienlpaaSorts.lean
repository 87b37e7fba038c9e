/- Any rows are sorted as the chapter says, and any row is hashed, and compared, so: whatever rows, where all together are of bulk at most 1048576. -/
import Derived.Test.YtmhcdmebienlpaaEx2
import Derived.Test.YtmhcdmebienlpaaOpenB
import Derived.Test.YtmhcdmebienlpaaRowSame
import Derived.Test.YtmhcdmebienlpaaSortT
import Derived.Test.YtmhcdmebienlpaaOwnR
import Derived.Test.YtmhcdmebienlpaaRefSort
import Derived.Test.YtmhcdmebienlpaaRefHash
import Derived.Test.YtmhcdmebienlpaaRowHash
namespace Go.Proofs.Ytmhcdmebienlpaa
open Go.ChangeShapes Go.WideShapes Go.ChangeAt Go.RowKit Go.Joins
open Go.Sort (PermIn SortedIn SWO)

theorem OwnV.rowP {w : World} {b : Nat} {q : Option Addr} {l c : Nat} {x : Nat → Val} (h : OwnV w b (.slice q l c) ((List.range l).map x)) : RowP w q l x := by
  obtain ⟨p, cap, he, hR, _⟩ := h.row
  simp at he
  obtain ⟨rfl, rfl⟩ := he
  rw [List.length_map, List.length_range] at hR
  rcases hR with h | ⟨b, off, hp, hA⟩
  · exact .inl h
  · exact .inr ⟨b, off, hp, hA.lt, fun n hn => by simpa [hn] using hA.c0 n hn, fun n hn => by simpa [hn] using hA.c1 n hn, fun n hn => by simpa [hn] using hA.c2 n hn⟩

theorem Sorting.list {R : Rws} {w wr : World} {v : Value} {E : List Nat} {fq : Nat → Option Addr} {fc : Nat → Nat} (S : Sorting R w wr v R.n E fq fc) (hl : ∀ i, i < R.n → R.l i ≤ 9223372036854775807) :
    ∃ p cap, v = .slice p R.n cap ∧ ListP wr p R.n (fun i => fq (E[i]?.getD 0)) (fun i => R.l (E[i]?.getD 0)) (fun i => fc (E[i]?.getD 0)) (fun i => R.x (E[i]?.getD 0)) := by
  have hE : E.length = R.n := by have := S.perm.length_eq; simpa using this
  have hlt : ∀ i, i < R.n → E[i]?.getD 0 < R.n := fun i hi => by
    have h : i < E.length := by omega
    have := S.perm.mem_iff.1 (List.getElem_mem h)
    simp only [List.getElem?_eq_getElem h, Option.getD_some]
    simpa using this
  obtain ⟨p, cap, hv, _, hs⟩ := S.own.src
  rw [List.length_map, hE] at hv
  refine ⟨p, cap, hv, fun k hk => ?_, fun i hi => S.row _ (hlt i hi), fun i hi => hl _ (hlt i hi)⟩
  rcases hs with h | ⟨g, h1, _, h3, h4⟩
  · have := congrArg List.length h
    rw [List.length_map, hE] at this
    simp at this
    omega
  · refine ⟨g, 0, h1, h3, fun i hi => ?_⟩
    rw [Nat.zero_add]
    refine h4 i _ ?_
    have h : i < E.length := by omega
    simp [h]

theorem heap_store3 (W : World) (h o : Nat) (u v x : Value) (k : Nat) (hk : k ≠ h) : (((W.setCell ⟨h, o, none⟩ u).setCell ⟨h, o + 1, none⟩ v).setCell ⟨h, o + 2, none⟩ x).heap[k]? = W.heap[k]? := by
  rw [Below.heap_setCell _ _ _ _ hk, Below.heap_setCell _ _ _ _ hk, Below.heap_setCell _ _ _ _ hk]
/-- Three cells stored, wherever: a block of values is as long as it was. -/
theorem Blk.store {W : World} {g n : Nat} (H : Blk W g n) (h o : Nat) (u v x : Value) : Blk (((W.setCell ⟨h, o, none⟩ u).setCell ⟨h, o + 1, none⟩ v).setCell ⟨h, o + 2, none⟩ x) g n := by
  obtain ⟨cur, h0, hn⟩ := H
  by_cases e : g = h
  · subst e
    refine ⟨((cur.setIfInBounds o u).setIfInBounds (o + 1) v).setIfInBounds (o + 2) x, ?_, by simpa using hn⟩
    rw [setCell_eq_setRow W g o cur _ (0, 0) u h0]
    have h1 := setRow_heap W g cur (cur.setIfInBounds o u) _ (0, 0) h0
    rw [setCell_eq_setRow _ g (o + 1) _ _ (0, 0) v h1]
    have h2 := setRow_heap _ g _ ((cur.setIfInBounds o u).setIfInBounds (o + 1) v) _ (0, 0) h1
    rw [setCell_eq_setRow _ g (o + 2) _ _ (0, 0) x h2]
    exact setRow_heap _ g _ _ _ (0, 0) h2
  · exact ⟨cur, by rw [heap_store3 _ _ _ _ _ _ _ e]; exact h0, hn⟩

/-- What the writing over of the rows that came passes through: what was there stays, the list of block g too, and each row's block is as long as it was. -/
structure Over (Z : World) (n : Nat) (B l : Nat → Nat) (W : World) : Prop where
  below : Below Z.heap.size Z W
  lies : ∀ j, j < n → W.cell? ⟨Z.heap.size, j, none⟩ = some (.slice (some ⟨B j, 0, none⟩) (l j) (l j))
  blk : ∀ j, j < n → Z.heap.size < B j ∧ (0 < l j → Blk W (B j) (l j))
theorem Over.store {Z W : World} {n : Nat} {B l : Nat → Nat} (h : Over Z n B l W) (j : Nat) (hj : j < n) (o : Nat) (u v x : Value) : Over Z n B l (((W.setCell ⟨B j, o, none⟩ u).setCell ⟨B j, o + 1, none⟩ v).setCell ⟨B j, o + 2, none⟩ x) := by
  have hB := (h.blk j hj).1
  refine ⟨((h.below.setCell (p := ⟨B j, _, none⟩) (Nat.le_of_lt hB) _).setCell (p := ⟨B j, _, none⟩) (Nat.le_of_lt hB) _).setCell (p := ⟨B j, _, none⟩) (Nat.le_of_lt hB) _, fun k hk => ?_, fun k hk => ⟨(h.blk k hk).1, fun h0 => ((h.blk k hk).2 h0).store _ _ _ _ _⟩⟩
  rw [World.cell?_of_block (w := W) (heap_store3 _ _ _ _ _ _ _ (Nat.ne_of_lt hB))]
  exact h.lies k hk

set_option maxRecDepth 100000 in
set_option maxHeartbeats 4000000 in
theorem sorts_walk (R : Rws) (q : Option Addr) (n cap : Nat) (pa pb : Option Addr) (na ca nb cb : Nat) (xa xb : Nat → Val) (w : World) (hcap : n ≤ cap) (hn : n ≤ 9223372036854775807) (hm : min (n : Int) 100 = (R.n : Int)) (hat : R.at_ w q) (hok : R.ok w) (hl : ∀ i, i < R.n → R.l i ≤ 1048576)
    (hna : na ≤ 9223372036854775807) (hnb : nb ≤ 9223372036854775807) (hA : RowP w pa na xa) (hB : RowP w pb nb xb) (hs : ∀ i, i < na → (xa i).s.size ≤ 1048576) :
    Calls Try.prog 4 #[.slice q n cap, .slice pa na ca, .slice pb nb cb] w fun e w' => e = .returned (.bool true) ∧ Below w.heap.size w w' := by
  have hmn : R.n ≤ n := by omega
  have hm100 : R.n ≤ 100 := by omega
  go_enter Try.func4, Try.ntmps4
  go_wp2_with fail
  refine (ex2_any _).mono ?_
  rintro e w1 ⟨rfl, hb1⟩
  go_wp2_with fail
  have H0 := Lib.hid (show R.at_ w1 q from fun k hk => by
    obtain ⟨b, off, h1, h2, h3⟩ := hat k hk
    exact ⟨b, off, h1, Nat.lt_of_lt_of_le h2 hb1.size, fun i hi => (hb1.cell (p := ⟨b, _, none⟩) h2).trans (h3 i hi)⟩)
  have HO := Lib.hid (show R.ok w1 from ⟨fun i hi => (hok.row i hi).ext hb1, hok.len⟩)
  have HA := Lib.hid (hA.ext hb1)
  have HB := Lib.hid (hB.ext hb1)
  have HW := Lib.hid hb1
  clear hat hok hb1 hA hB
  go_loopw [8, 9] (fun vt vi wr => ∃ (k : Nat) (oq : Nat → Option Addr) (oc : Nat → Nat), vi = .int .i64 k ∧ k ≤ R.n ∧ Hid (OwnR wr w1.heap.size vt ((List.range k).map fun i => Value.slice (oq i) (R.l i) (oc i)) ∧ Below w1.heap.size w1 wr ∧ ∀ i, i < k → ∃ b, OwnV wr b (.slice (oq i) (R.l i) (oc i)) ((List.range (R.l i)).map (R.x i)))) (fun _ vi _ => R.n - (intOf vi).toNat)
  case atStart => exact ⟨0, fun _ => none, fun _ => 0, rfl, Nat.zero_le _, ⟨World.ownsRow_nil _ _ _ _, Below.refl _ _, fun i hi => absurd hi (Nat.not_lt_zero _)⟩⟩
  case round =>
    obtain ⟨k, oq, oc, rfl, hk, HH⟩ := hrel
    by_cases hlt : k < R.n
    · obtain ⟨b, off, hq, hb, hc⟩ := H0.out k hlt
      have c0 := (HH.out.2.1.cell (p := ⟨b, _, none⟩) hb).trans (hc k hlt)
      subst hq
      clear hc
      have hri := (HO.out.row k hlt).ext HH.out.2.1
      have hli := hl k hlt
      go_wp2_with (at_builtin; refine wp_append_row rfl _ _ rfl wr.heap.size _ [] rfl (OwnV.nil _ _) (R.q k) (R.l k) (R.c k) (R.x k) rfl hri ?z1 (Nat.le_refl _) ?_)
      case z1 => simp; omega
      intro v2 w2 O2 g2 b2
      have O2 : OwnV w2 wr.heap.size v2 ((List.range (R.l k)).map (R.x k)) := O2
      clear g2
      obtain ⟨q2, c2, hv2, _, _, _⟩ := O2.row
      rw [show ((List.range (R.l k)).map (R.x k)).length = R.l k by simp] at hv2
      subst hv2
      have O1 := HH.out.1.later b2
      have HO2 := Lib.hid O2
      clear O2
      go_wp2_with (at_builtin; refine wp_append_slice rfl _ _ rfl w1.heap.size _ _ rfl (O1.later ?c1) (.slice q2 (R.l k) c2) _ _ rfl ?c2 rfl ?c3 ?c4 ?_)
      case c1 => exact (Below.refl _ _).alloc (Nat.le_refl _) _
      case c2 => exact Lib.cell_of_heap (heap_alloc_new _ _) 0
      case c3 => simp; omega
      case c4 => have := HH.out.2.1.size; have := b2.size; simp; omega
      intro v3 w3 O3 g3 b3
      have H3 := Lib.hid (And.intro O3 (And.intro g3 (And.intro b3 (And.intro b2 O1))))
      clear O3 g3 b3 b2 O1 hri c0
      go_wp2
      go_roundw
      case rel =>
        obtain ⟨O3, g3, b3, b2, O1⟩ := H3.out
        have al : Below w2.heap.size w2 (w2.alloc (.cells #[.slice q2 (R.l k) c2] 22)) := (Below.refl _ _).alloc (Nat.le_refl _) _
        have e : (List.range (k + 1)).map (fun i => Value.slice (if i = k then q2 else oq i) (R.l i) (if i = k then c2 else oc i)) = (List.range k).map (fun i => Value.slice (oq i) (R.l i) (oc i)) ++ [Value.slice q2 (R.l k) c2] := by
          rw [List.range_succ, List.map_append]
          congr 1
          · exact List.map_congr_left fun a ha => by have := List.mem_range.1 ha; simp [show a ≠ k by omega]
          · simp
        refine ⟨k + 1, fun i => if i = k then q2 else oq i, fun i => if i = k then c2 else oc i, by go_num, hlt, ⟨?_, ?_, fun i hi => ?_⟩⟩
        · rw [e]
          exact O3
        · exact (HH.out.2.1.trans (b2.mono HH.out.2.1.size)).trans ((al.mono (Nat.le_trans HH.out.2.1.size b2.size)).trans b3)
        · by_cases ek : i = k
          · subst ek
            simp only [if_true]
            exact ⟨_, (HO2.out.later al).grownR (O1.later al) g3⟩
          · simp only [if_neg ek]
            obtain ⟨b', h⟩ := HH.out.2.2 i (by omega)
            exact ⟨b', ((h.later b2).later al).grownR (O1.later al) g3⟩
      case measure => simp [intOf] <;> omega
    · have hkn : k = R.n := by omega
      subst hkn
      obtain ⟨Y, hY⟩ : ∃ Y, Y = wr := ⟨_, rfl⟩
      subst hY
      obtain ⟨p, cp, hv, hOat⟩ := OwnR.rws (R := ⟨R.n, oq, R.l, oc, R.x⟩) HH.out.1
      have hv : _ = Value.slice p R.n cp := hv
      subst hv
      have HOat := Lib.hid hOat
      have HOok := Lib.hid (show Rws.ok ⟨R.n, oq, R.l, oc, R.x⟩ Y from ⟨fun i hi => (HH.out.2.2 i hi).choose_spec.rowP, fun i hi => HO.out.len i hi⟩)
      have hRok : R.ok Y := ⟨fun i hi => (HO.out.row i hi).ext HH.out.2.1, HO.out.len⟩
      have hRat : R.at_ Y q := fun k hk => by
        obtain ⟨b, off, h1, h2, h3⟩ := H0.out k hk
        exact ⟨b, off, h1, Nat.lt_of_lt_of_le h2 HH.out.2.1.size, fun i hi => (HH.out.2.1.cell (p := ⟨b, _, none⟩) h2).trans (h3 i hi)⟩
      have HY := Lib.hid HH.out.2.1
      have HR := Lib.hid (And.intro hRok hRat)
      clear hOat hlt hk HH H0
      go_wp2_with fail
      refine (rsort_any R q cap Y hRok hm100 (fun i hi => by have := hl i hi; omega) hRat).mono ?_
      rintro _ w2 ⟨E, fq, fc, v, rfl, S⟩
      obtain ⟨pw, cw, hv, LW⟩ := S.list (fun i hi => HO.out.len i hi)
      subst hv
      have HS := Lib.hid S
      have HL := Lib.hid LW
      clear S LW hRok hRat
      go_wp2_with fail
      go_loopw [11] (fun vi wq => ∃ k : Nat, vi = .int .i64 k ∧ k ≤ 2 ∧ Hid (Below w2.heap.size w2 wq)) (fun vi _ => 2 - (intOf vi).toNat)
      case atStart => exact ⟨0, rfl, by omega, Below.refl _ _⟩
      case round =>
        obtain ⟨k, rfl, hk, HK⟩ := hrel
        obtain ⟨Z, hZ⟩ : ∃ Z, Z = wr := ⟨_, rfl⟩
        subst hZ
        have bYZ := ext_trans HS.out.below HK.out
        have hOok : Rws.ok ⟨R.n, oq, R.l, oc, R.x⟩ Z := ⟨fun i hi => (HOok.out.row i hi).ext bYZ, HOok.out.len⟩
        have hOat : Rws.at_ ⟨R.n, oq, R.l, oc, R.x⟩ Z p := fun k hk => by
          obtain ⟨b, off, h1, h2, h3⟩ := HOat.out k hk
          exact ⟨b, off, h1, Nat.lt_of_lt_of_le h2 bYZ.size, fun i hi => (bYZ.cell (p := ⟨b, _, none⟩) h2).trans (h3 i hi)⟩
        by_cases hk2 : k < 2
        · have hc := rowSort_any ⟨R.n, oq, R.l, oc, R.x⟩ p cp Z hOok (by show R.n ≤ _; omega) (fun i hi => by have := hl i hi; show R.l i ≤ _; omega) hOat
          dsimp only at hc
          clear hOok hOat bYZ
          go_wp2_with fail
          refine hc.mono ?_
          clear hc
          rintro _ w3 ⟨rfl, hb3, d, B, D, hd, P, so, LA, hB⟩
          have HSM := Lib.hid (show sameRows (fun i => R.l (d i)) (fun i => R.l (E[i]?.getD 0)) (fun i => R.x (d i)) (fun i => R.x (E[i]?.getD 0)) R.n = true from by
            refine sameRows_iff.2 fun i hi => ?_
            have hDs : D.size = R.n := by have := P.1; simpa using this
            have hE : E.length = R.n := by have := HS.out.perm.length_eq; simpa using this
            have h := congrArg (fun l => l[i]?) (sorted_list_same ⟨R.n, oq, R.l, oc, R.x⟩ R D E P so HS.out.perm HS.out.order (List.Perm.refl _))
            simp only [Rws.ord_at _ D i (show i < D.size by omega), List.getElem?_map] at h
            rw [List.getElem?_eq_getElem (show i < E.length by omega)] at h ⊢
            simp only [Option.map_some, Option.some.injEq, Option.getD_some] at h ⊢
            rw [← (hd i hi).2] at h
            exact rows_of_eq (R := ⟨R.n, oq, R.l, oc, R.x⟩) (Q := R) h)
          have LW3 := (HL.out.ext HK.out).ext hb3
          have HB3 := Lib.hid hb3
          have HBB := Lib.hid hB
          have HLA := Lib.hid LA
          have HD := Lib.hid hd
          clear hd P so hB hb3
          go_wp2_with fail
          refine (rows_any _ _ R.n R.n R.n _ _ _ _ _ _ _ _ _ _ (by omega) (by omega) LA LW3).mono ?_
          rintro _ w4 ⟨rfl, hb4⟩
          rw [HSM.out]
          clear LA LW3
          have HOV := Lib.hid (show Over Z R.n B (fun j => R.l (d j)) w4 from ⟨ext_trans HB3.out hb4, fun j hj => by
            obtain ⟨b, off, e, h1, h2⟩ := (HLA.out.ext hb4).one j hj
            cases e
            have := h2 j hj
            rwa [Nat.zero_add] at this, fun j hj => ⟨(HBB.out j hj).1, fun h0 => ((HBB.out j hj).2 h0).ext hb4⟩⟩)
          obtain ⟨g, hg⟩ : ∃ g, g = Z.heap.size := ⟨_, rfl⟩
          have HG := Lib.hid hg
          rw [← hg]
          clear HBB HLA HSM hb4 HB3 hg
          go_wp2_with fail
          go_loopw [14] (fun vi wq => ∃ i : Nat, vi = .int .i64 i ∧ i ≤ R.n ∧ Hid (Over Z R.n B (fun j => R.l (d j)) wq)) (fun vi _ => R.n - (intOf vi).toNat)
          case atStart => exact ⟨0, rfl, Nat.zero_le _, HOV.out⟩
          case round =>
            obtain ⟨i, rfl, hi, HI⟩ := hrel
            by_cases hin : i < R.n
            · have hld : R.l (d i) ≤ 9223372036854775807 := HOok.out.len _ (HD.out i hin).1
              go_wp2_with fail
              go_loopw [15] (fun vj wq => ∃ j : Nat, vj = .int .i64 j ∧ j ≤ R.l (d i) ∧ Hid (Over Z R.n B (fun j => R.l (d j)) wq)) (fun vj _ => R.l (d i) - (intOf vj).toNat)
              case atStart => exact ⟨0, rfl, Nat.zero_le _, HI.out⟩
              case round =>
                obtain ⟨j, rfl, hj, HJ⟩ := hrel
                have c0 := HJ.out.lies i hin
                rw [← HG.out] at c0
                have f0 : True := trivial
                by_cases hjl : j < R.l (d i)
                · obtain ⟨cur, hcur, hcs⟩ := (HJ.out.blk i hin).2 (by omega)
                  have q0 : ∃ u, wr.cell? ⟨B i, j * 3, none⟩ = some u := ⟨_, by rw [Lib.cell_of_heap hcur]; exact Array.getElem?_eq_getElem (by omega)⟩
                  have q1 : ∃ u, wr.cell? ⟨B i, j * 3 + 1, none⟩ = some u := ⟨_, by rw [Lib.cell_of_heap hcur]; exact Array.getElem?_eq_getElem (by omega)⟩
                  have q2 : ∃ u, wr.cell? ⟨B i, j * 3 + 2, none⟩ = some u := ⟨_, by rw [Lib.cell_of_heap hcur]; exact Array.getElem?_eq_getElem (by omega)⟩
                  obtain ⟨u0, q0⟩ := q0
                  obtain ⟨u1, q1⟩ := q1
                  obtain ⟨u2, q2⟩ := q2
                  have f0 := Lib.frozen_of_heap hcur
                  clear hcur hcs
                  go_wp2
                  go_roundw
                  case rel => exact ⟨j + 1, by go_num, hjl, HJ.out.store i hin _ _ _ _⟩
                  case measure => simp [intOf] <;> omega
                · have hjl' : j = R.l (d i) := by omega
                  subst hjl'
                  go_wp2
                  go_roundw
                  case rel => exact ⟨i + 1, by go_num, hin, HJ.out⟩
                  case measure => simp [intOf] <;> omega
            · have hin' : i = R.n := by omega
              subst hin'
              go_wp2
              go_roundw
              case rel => exact ⟨k + 1, by go_num, hk2, ext_trans HK.out HI.out.below⟩
              case measure => simp [intOf] <;> omega
        · have hk2' : k = 2 := by omega
          subst hk2'
          have bAll := ext_trans HY.out bYZ
          have LO : ListP Z p R.n oq R.l oc R.x := ⟨hOat, hOok.row, hOok.len⟩
          have LR : ListP Z q R.n R.q R.l R.c R.x := ⟨fun k hk => by
            obtain ⟨b, off, h1, h2, h3⟩ := HR.out.2 k hk
            exact ⟨b, off, h1, Nat.lt_of_lt_of_le h2 bYZ.size, fun i hi => (bYZ.cell (p := ⟨b, _, none⟩) h2).trans (h3 i hi)⟩, fun i hi => (HR.out.1.row i hi).ext bYZ, HR.out.1.len⟩
          have HAll := Lib.hid bAll
          clear hOok hOat bYZ bAll
          go_wp2_with fail
          refine (rows_any _ _ R.n _ R.n _ _ _ _ _ _ _ _ _ _ (by omega) (by omega) LO LR).mono ?_
          rintro _ w5 ⟨rfl, hb5⟩
          rw [show sameRows R.l R.l R.x R.x R.n = true from sameRows_iff.2 fun i _ => ⟨rfl, fun _ _ => rfl⟩]
          have bEnd := ext_trans HAll.out hb5
          have rA := HA.out.ext bEnd
          have rB := HB.out.ext bEnd
          have HE := Lib.hid (ext_trans HW.out bEnd)
          clear LO LR hb5 bEnd
          go_wp2_with fail
          refine (rowHash_any _ _ _ _ _ hna rA (fun i hi => by have := hs i hi; omega)).mono ?_
          rintro _ w6 ⟨rfl, hb6⟩
          have rA := rA.ext hb6
          have rB := rB.ext hb6
          go_wp2_with fail
          refine (rhash_any _ _ _ _ _ hna rA (fun i hi => by have := hs i hi; omega)).mono ?_
          rintro _ w7 ⟨rfl, hb7⟩
          have rA := rA.ext hb7
          have rB := rB.ext hb7
          have HE7 := Lib.hid (ext_trans HE.out (ext_trans hb6 hb7))
          clear hb6 hb7
          go_wp2_with fail
          refine (rowCompare_any _ _ _ _ _ _ _ _ _ hna hnb rA rB).mono ?_
          rintro _ w8 ⟨rfl, hb8⟩
          have rA := rA.ext hb8
          have rB := rB.ext hb8
          go_wp2_with fail
          refine (rrowCompare_any _ _ _ _ _ _ _ _ _ hna hnb rA rB).mono ?_
          rintro _ w9 ⟨rfl, hb9⟩
          have HE9 := Lib.hid (ext_trans HE7.out (ext_trans hb8 hb9))
          clear hb8 hb9
          go_wp2
          go_ret
          exact ⟨rfl, HE9.out⟩

theorem sorts_law (R : Rws) (q : Option Addr) (cap : Nat) (pa pb : Option Addr) (na ca nb cb : Nat) (xa xb : Nat → Val) (w : World) (hcap : R.n ≤ cap) (hn : R.n ≤ 9223372036854775807) (hat : R.at_ w q) (hok : R.ok w) (hl : ∀ i, i < R.n → R.l i ≤ 1048576)
    (hna : na ≤ 9223372036854775807) (hnb : nb ≤ 9223372036854775807) (hA : RowP w pa na xa) (hB : RowP w pb nb xb) (hs : ∀ i, i < na → (xa i).s.size ≤ 1048576) :
    Calls Try.prog 4 #[.slice q R.n cap, .slice pa na ca, .slice pb nb cb] w fun e w' => e = .returned (.bool true) ∧ Below w.heap.size w w' :=
  sorts_walk ⟨min R.n 100, R.q, R.l, R.c, R.x⟩ q R.n cap pa pb na ca nb cb xa xb w hcap hn (by show _ = ((min R.n 100 : Nat) : Int); omega)
    (fun k hk => by
      have hk : k < min R.n 100 := hk
      obtain ⟨b, off, h1, h2, h3⟩ := hat k (by omega)
      exact ⟨b, off, h1, h2, fun i hi => h3 i (by have hi : i < min R.n 100 := hi; omega)⟩)
    ⟨fun i hi => hok.row i (by have hi : i < min R.n 100 := hi; omega), fun i hi => hok.len i (by have hi : i < min R.n 100 := hi; omega)⟩ (fun i hi => hl i (by have hi : i < min R.n 100 := hi; omega)) hna hnb hA hB hs

/- FRAME -/

set_option maxRecDepth 100000 in
theorem rowSorts_lifted (os : Os) (started : os.Started) (H : Type) (enc : TypeId × Value → H) (F : Stop.Interp) :
    ReturnsInHanded {} Try.checked os 4 .any ((Rows.OpenSpec.upto Rows.rowSortsSpec).pre6 enc Try.prog Try.f4 Rows.rowSortsUptoRow.domain false) (((Rows.OpenSpec.upto Rows.rowSortsSpec).at F).post enc Try.prog Try.f4 false true false false) := by
  refine returnsInHanded_of_cond (C := Try.checked) (s := Rows.OpenSpec.upto Rows.rowSortsSpec) (k := Rows.uptoSmall) rfl Try.own started (by kernel_rfl) Try.func4
    (OpenSpec.witness (enc := enc) (C := Try.checked) (s := Rows.OpenSpec.upto Rows.rowSortsSpec) (k := Rows.uptoSmall) rfl false ⟨#[], #[.slice none 0 0, .slice none 0 0, .slice none 0 0], []⟩ 8 (by kernel_rfl) (by kernel_rfl) (by kernel_rfl)
      (x := ([.nil, .nil, .nil], [], [])) (by kernel_rfl) rfl (by kernel_rfl)) ?_
  intro W base args ds gs before hval0 hW _ hk _
  have hval : ∀ (j : Nat) t v, Try.f4.params[j]? = some t → args[j]? = some v → Value.okWide Try.prog W .any base t v := hval0
  have hW' := hW
  obtain ⟨p, q, hA0, hV, rfl, _, _⟩ := hW
  obtain ⟨rfl, rfl⟩ := trodVars_none hV
  have hA : DataW.TrodAll enc Try.prog W 0 (fun _ => true) true Try.f4.params.toList args.toList ds p := hA0
  rw [Try.params4] at hA hval
  obtain ⟨v0, v1, v2, d0, d1, d2, p0, p1, p2, rfl, rfl, rfl, h0, h1, h2⟩ := trodAll_three hA
  have hB : Rows.uptoBulkAll [d0, d1, d2] ≤ 1048576 := of_decide_eq_true hk
  simp only [Rows.uptoBulkAll] at hB
  obtain ⟨R0, q0, c0, rfl, le0, m0, at0, ok0, l0⟩ := open_rowlist2 (hval 0 34 v0 rfl rfl) h0
  obtain ⟨a1, n1, c1, x1, ax1, bx1, tx1⟩ := open_row3 (hval 1 22 v1 rfl rfl) h1
  obtain rfl := ax1.eq
  obtain ⟨a2, n2, c2, x2, ax2, bx2⟩ := open_row2 (hval 2 22 v2 rfl rfl) h2
  obtain rfl := ax2.eq
  clear hA0 hval0
  refine (sorts_law R0 q0 c0 a1 a2 n1 c1 n2 c2 x1 x2 W le0 m0 at0 ok0 (fun i hi => by have := l0 i hi; omega) ax1.le ax2.le ax1.row ax2.row (fun i hi => by have := tx1 i hi; omega)).mono fun e W' ⟨he, hb⟩ => ⟨_, he, post_law rfl hW' rfl rfl ?_ hb⟩
  intro t ht
  rw [Try.params4] at ht
  simp only [List.mem_cons, List.not_mem_nil, or_false] at ht
  rcases ht with rfl | rfl | rfl <;> exact ⟨by kernel_rfl, of_decide_eq_true (by kernel_rfl)⟩

theorem rowSorts_holds : Rows.RowSortsUptoSaid :=
  OpenClaim.holds_of_cond 4 Try.f4 rfl rfl rfl rfl rfl rfl rfl ⟨rfl, rfl, rfl, rfl, rfl⟩ rfl rfl rfl rfl rfl (by kernel_rfl) Try.func4 (by kernel_rfl)
    (of_decide_eq_true (by kernel_rfl)) (by unfold Func.isWrapper; rw [if_neg (of_decide_eq_false (by kernel_rfl))]; exact ⟨rfl, rfl⟩)
    (fun os started H enc _ F => rowSorts_lifted os started H enc F)

#print axioms rowSorts_holds

end Go.Proofs.Ytmhcdmebienlpaa
