/- Picks tell, choice by choice, and order by order, just what the chapter says: whatever the numbers. Conditions: none. -/
import Derived.Test.YtklfccdjmlmmgaaPkE
import Derived.Test.YtklfccdjmlmmgaaPkA
import Derived.Deep.OwnRows
import Derived.Deep.RegionHeld3
import Derived.BigQuiet
namespace Go.Proofs.Ytklfccdjmlmmgaa
open Go.ChangeShapes Go.WideShapes Go.ChangeAt Go.RowKit Go.Joins

theorem SrcI.keep {S : Nat → Prop} {w w' : World} {M : Nat} {q : Option Addr} {K : List Int} (h : SrcI w M q K) (o : Out S w w') (hM : M ≤ w.heap.size) (hS : ∀ k, S k → M ≤ k) : SrcI w' M q K := h.ext (o.below hM hS)
theorem RPk.keep {S : Nat → Prop} {w w' : World} {M0 B p : Nat} {L : List Int} (h : RPk w M0 B p L) (o : Out S w w') (hp : ¬ S p) (hS : ∀ k, S k → M0 ≤ k) : RPk w' M0 B p L := by
  obtain ⟨q, cap, h1, h2, h3⟩ := h.blk
  exact ⟨⟨q, cap, by rw [o.block p (Nat.lt_of_lt_of_le h.low h.top) hp]; exact h1, h2.keep o (Nat.le_trans h.nb h.top) hS, h3⟩, h.fit, h.low, Nat.le_trans h.top o.size, h.nb⟩
theorem RPk.slot {w : World} {M0 B p : Nat} {L : List Int} (h : RPk w M0 B p L) : ∃ q cap, w.cell? ⟨p, 0, none⟩ = some (.slice q L.length cap) := by
  obtain ⟨q, cap, h1, _⟩ := h.blk
  exact ⟨q, cap, by rw [Lib.cell_of_heap h1]; rfl⟩
theorem OwnI.src_ {w : World} {base : Nat} {q : Option Addr} {n c : Nat} {l : List Int} (h : OwnI w base (.slice q n c) l) : SrcI w w.heap.size q l := by
  obtain ⟨p, cap, e, _, _, hs⟩ := h.srcI
  obtain ⟨rfl, -, -⟩ : q = p ∧ n = l.length ∧ c = cap := by simpa using e
  exact hs
theorem OwnI.slice {w : World} {base : Nat} {v : Value} {l : List Int} (h : OwnI w base v l) : ∃ q c, v = .slice q l.length c ∧ True := by
  obtain ⟨p, cap, e, _⟩ := h.srcI
  exact ⟨p, cap, e, trivial⟩
theorem left_drew (B p c : Nat) (L : List Int) (w : World) (n : Nat) (hR : PkP w B p c L) :
    Calls Try.prog 16 #[.pointer (some ⟨p, 0, none⟩)] (w.drewN n) fun e w'' => e = .returned (.int .i64 L.length) ∧ ∃ k, w'' = w.drewN k :=
  (left_any B p c L (w.drewN n) (hR.ext ((ext_drewN (ext_refl w) n).mono hR.top))).mono fun _ _ h => ⟨h.1, n, h.2⟩

/-- The copy's cells: numbers, whatever they are, in a block between b and b'. -/
def Row0 (w : World) (b b' : Nat) (q : Option Addr) (n : Nat) : Prop := 0 < n → ∃ g cap f, ∃ Z : Nat → Int, q = some ⟨g, 0, none⟩ ∧ b ≤ g ∧ g < b' ∧ n ≤ cap ∧ w.rowIs g 3 cap f ∧ ∀ i, i < n → f i = .int .i64 (Z i)
theorem OwnI.row0 {w : World} {base : Nat} {q : Option Addr} {n c : Nat} {l : List Int} (h : OwnI w base (.slice q n c) l) : Row0 w base w.heap.size q l.length := by
  intro h0
  obtain ⟨h1, h2⟩ := h
  rcases h2 with ⟨_, h2⟩ | ⟨g, cap, cur, hv, hb, hg, hn, hmx, hsz, htk⟩
  · omega
  · obtain ⟨rfl, -, -⟩ : q = some ⟨g, 0, none⟩ ∧ n = l.length ∧ c = cap := by simpa using hv
    rw [Nat.mul_one] at hsz htk
    refine ⟨g, cap, fun j => cur[j]?.getD undef, fun j => l[j]?.getD 0, rfl, hb, ?_, hn, ⟨cur, hg, hsz, fun i hi => ?_⟩, fun i hi => ?_⟩
    · rcases Nat.lt_or_ge g w.heap.size with h | h
      · exact h
      · rw [Array.getElem?_eq_none h] at hg; cases hg
    · show cur[i]? = some (cur[i]?.getD undef)
      rw [Array.getElem?_eq_getElem (by omega)]
      rfl
    · have := congrArg (fun l => l[i]?) htk
      simp only [List.getElem?_take, if_pos hi, List.getElem?_map] at this
      show cur[i]?.getD undef = .int .i64 (l[i]?.getD 0)
      rw [← Array.getElem?_toList, this, List.getElem?_eq_getElem hi]
      rfl

set_option maxRecDepth 100000 in
set_option maxHeartbeats 8000000 in
theorem plays_walk (q1 q2 q3 : Option Addr) (c1 c2 c3 : Nat) (L C D : List Int) (w : World) (hc1 : L.length ≤ c1) (hm1 : c1 ≤ 9223372036854775807) (hS1 : SrcI w w.heap.size q1 L) (hF1 : Fit L)
    (hS2 : SrcI w w.heap.size q2 C) (hF2 : Fit C) (hS3 : SrcI w w.heap.size q3 D) (hF3 : Fit D) (hz : L.length * 8 ≤ 140737488355328) :
    Calls Try.prog 3 #[.slice q1 L.length c1, .slice q2 C.length c2, .slice q3 D.length c3] w fun e w' => e = .returned (.bool true) ∧ Below w.heap.size w w' := by
  have HS1 := Lib.hid hS1
  have HS2 := Lib.hid hS2
  have HS3 := Lib.hid hS3
  have HF1 := Lib.hid hF1
  have HF2 := Lib.hid hF2
  have HF3 := Lib.hid hF3
  have HT := Lib.hid (show Fit (L.take 1000) from fun x hx => hF1 x (List.mem_of_mem_take hx))
  clear hS1 hS2 hS3 hF1 hF2 hF3
  go_enter Try.func3, Try.ntmps3
  go_wp2_with fail
  refine (ex4_any _).mono ?_
  rintro e w1 ⟨rfl, hb1⟩
  have hs1 := hb1.size
  have E1 := Lib.hid hb1
  clear hb1
  go_wp2_with (at_builtin; refine wp_append_ints rfl _ _ rfl w1.heap.size _ [] rfl (OwnI.nil _ _) _ _ _ L rfl rfl ((HS1.out.ext E1.out).up hs1) ?z1 (Nat.le_refl _) ?_)
  case z1 => simp; omega
  intro v2 w2 O2 b2 _
  have O2 : OwnI w2 w1.heap.size v2 L := O2
  obtain ⟨qo, co, rfl, hlo, hmo, hso⟩ := O2.srcI
  have hs2 := b2.size
  have R2 := Lib.hid O2.row0
  have S2 := Lib.hid hso
  have E2 := Lib.hid (E1.out.trans (b2.mono hs1))
  clear O2 b2 hso
  go_wp2_with fail
  refine (new_some qo co L.length (L.take 1000) w2 (fun i h => by rw [List.length_take]; omega) hlo hmo (S2.out.take 1000) HT.out (by rw [List.length_take]; omega)).mono ?_
  rintro e w3 ⟨p, cp, rfl, hP, hp, hcp, hb⟩
  have hs3 := hb.size
  have l1 := hP.lowp
  have l2 := hP.lowc
  have P3 := Lib.hid (And.intro hP hb)
  have E3 := Lib.hid (E2.out.trans (hb.mono (Nat.le_trans hs1 hs2)))
  clear hP hb S2
  go_wp2_with fail
  refine (rnew_any q1 c1 L w3 hc1 hm1 (M0 := w.heap.size) (HS1.out.ext E3.out) E3.out.size HF1.out).mono ?_
  rintro e w4 ⟨⟨pr, rfl, hpr, hR⟩, hb⟩
  have hs4 := hb.size
  have l3 := hR.top
  have lpr : w3.heap.size ≤ pr := by omega
  have st : PkP w4 w3.heap.size p cp (L.take 1000) ∧ RPk w4 w.heap.size (pr + 1) pr (L.take 1000) ∧ Below w.heap.size w w4 ∧ Row0 w4 w1.heap.size w2.heap.size qo L.length :=
    ⟨P3.out.1.ext hb, hR, E3.out.trans (hb.mono E3.out.size), fun h0 => by
      obtain ⟨g, cap, f, Z, h1, h2, h3, h4, h5, h6⟩ := R2.out h0
      exact ⟨g, cap, f, Z, h1, h2, h3, h4, h5.of_block ((hb.block g (by omega)).trans (P3.out.2.block g h3)), h6⟩⟩
  have S4 := Lib.hid st
  obtain ⟨K0, hK0⟩ : ∃ K, K = L.take 1000 := ⟨_, rfl⟩
  rw [← hK0] at S4
  clear hK0 hR hb P3 R2 st hpr
  go_wp2_with fail
  go_loopw [11] (fun vi wr => ∃ i : Nat, vi = .int .i64 i ∧ i ≤ L.length ∧ Hid (Row0 wr w1.heap.size w2.heap.size qo L.length ∧ Out (fun k => w1.heap.size ≤ k ∧ k < w2.heap.size) w4 wr)) (fun vi _ => L.length - (intOf vi).toNat)
  case atStart => exact ⟨0, rfl, Nat.zero_le _, S4.out.2.2.2, Out.refl _ _⟩
  case round =>
    obtain ⟨i, rfl, hi, HH⟩ := hrel
    by_cases hlt : i < L.length
    · obtain ⟨g, cap, f, Z, rfl, h2, h3, h4, h5, h6⟩ := HH.out.1 (by omega)
      have c0 : wr.cell? ⟨g, i, none⟩ = some (.int .i64 (Z i)) := by rw [h5.cell (by omega), h6 i hlt]
      have f0 := h5.frozen
      have H5 := Lib.hid (And.intro h5 h6)
      clear h5 h6
      go_wp2_with fail
      go_roundw
      case rel =>
        refine ⟨i + 1, by go_num, hlt, fun _ => ⟨g, cap, _, fun j => if j = i then 0 else Z j, rfl, h2, h3, h4, H5.out.1.set i _, fun j hj => ?_⟩, HH.out.2.trans (Out.set ⟨g, i, none⟩ _ ⟨h2, h3⟩)⟩
        by_cases e : j = i
        · simp [e]
        · simp [e, H5.out.2 j hj]
      case measure => simp [intOf] <;> omega
    · have hsr := HH.out.2.size
      have st : PkP wr w3.heap.size p cp K0 ∧ RPk wr w.heap.size (pr + 1) pr K0 ∧ Below w.heap.size w wr :=
        ⟨S4.out.1.keep HH.out.2 (by omega) (by omega), S4.out.2.1.keep HH.out.2 (by omega) (fun k h => by omega), S4.out.2.2.1.trans (HH.out.2.below (by omega) (fun k h => by omega))⟩
      have S5 := Lib.hid st
      obtain ⟨w5, hw5⟩ : ∃ w5, w5 = wr := ⟨_, rfl⟩
      subst hw5
      clear HH st S4
      go_wp2_with fail
      go_loopw [12] (fun vi wx => ∃ i : Nat, vi = .int .i64 i ∧ i ≤ 60 ∧ Hid (∃ K, PkP wx w3.heap.size p cp K ∧ RPk wx w.heap.size (pr + 1) pr K ∧ Below w.heap.size w wx)) (fun vi _ => 60 - (intOf vi).toNat)
      case atStart => exact ⟨0, rfl, Nat.zero_le _, K0, S5.out⟩
      case round =>
        obtain ⟨i, rfl, hi, HH⟩ := hrel
        by_cases h60 : (i : Int) < 60
        · obtain ⟨K, hST⟩ := HH.out
          have HST := Lib.hid hST
          clear HH hST
          by_cases hci : i < C.length
          · obtain ⟨g2, off2, rfl, hg2, hcell2⟩ := HS2.out i hci
            obtain ⟨x, hx⟩ : ∃ x, x = C[i] := ⟨_, rfl⟩
            have hfx := HF2.out x (by rw [hx]; exact List.getElem_mem hci)
            have hcx : ∀ W, Below w.heap.size w W → W.cell? ⟨g2, off2 + i, none⟩ = some (.int .i64 x) := fun W h => (h.cell (p := ⟨g2, off2 + i, none⟩) hg2).trans (hcell2 i x (by rw [hx]; exact List.getElem?_eq_getElem hci))
            have HX := Lib.hid hcx
            clear hcell2 hx hcx
            go_wp2_with fail
            have hdr : Below wr.heap.size wr wr.drew := (Below.refl _ _).drew
            have HD := Lib.hid (show PkP wr.drew w3.heap.size p cp K ∧ RPk wr.drew w.heap.size (pr + 1) pr K ∧ Below w.heap.size w wr.drew from ⟨HST.out.1.ext (hdr.mono HST.out.1.top), HST.out.2.1.ext (hdr.mono HST.out.2.1.top), HST.out.2.2.trans (hdr.mono HST.out.2.2.size)⟩)
            have hcd := HX.out wr.drew HD.out.2.2
            have hsd : w.heap.size ≤ wr.drew.heap.size := HD.out.2.2.size
            clear hdr HST
            go_region_held3 (fun W => W.cell? ⟨g2, off2 + i, none⟩ = some (.int .i64 x))
              (first | exact hcd | exact hc5 | exact hc6) (first
                | (go_at_call 11; go_must (refine (next_any w3.heap.size p cp K x wr.drew HD.out.1 hfx.2).mono ?_; rintro e W5 ⟨rfl, h5, o5⟩; have h5s := o5.size; have hr5 := HD.out.2.1.keep o5 (by omega) (by omega); have hb5 := HD.out.2.2.trans (o5.below hsd (fun k e => by omega)); have hc5 := HX.out W5 hb5; have H5 := Lib.hid (And.intro h5 (And.intro hr5 hb5)); clear h5 o5 hr5 hb5))
                | (go_at_call 12; go_must (refine (rnext_any w.heap.size (pr + 1) pr K x W5 H5.out.2.1 hfx.2).mono ?_; rintro e W6 ⟨rfl, h6, o6⟩; have h6s := o6.size; have hp6 := H5.out.1.keep o6 (by omega) (by omega); have hb6 := H5.out.2.2.trans (o6.below (by omega) (fun k e => by omega)); have hc6 := HX.out W6 hb6; have H6 := Lib.hid (And.intro hp6 (And.intro h6 hb6)); clear hp6 h6 o6 hb6)))
            obtain ⟨Kn, hKn⟩ : ∃ Kn, Kn = pickL K x := ⟨_, rfl⟩
            have HST : Hid (PkP W6 w3.heap.size p cp Kn ∧ RPk W6 w.heap.size (pr + 1) pr Kn ∧ Below w.heap.size w W6) := by rw [hKn]; exact H6
            clear H6 hKn hcd
            by_cases hd : i < D.length
            · obtain ⟨g3, off3, rfl, hg3, hcell3⟩ := HS3.out i hd
              obtain ⟨y, hy⟩ : ∃ y, y = D[i] := ⟨_, rfl⟩
              have hfy := HF3.out y (by rw [hy]; exact List.getElem_mem hd)
              have hcy : ∀ W, Below w.heap.size w W → W.cell? ⟨g3, off3 + i, none⟩ = some (.int .i64 y) := fun W h => (h.cell (p := ⟨g3, off3 + i, none⟩) hg3).trans (hcell3 i y (by rw [hy]; exact List.getElem?_eq_getElem hd))
              have HY := Lib.hid hcy
              have c3 := hcy W6 HST.out.2.2
              clear hcell3 hy hcy
              by_cases hy50 : y < 50
              · go_wp2_with fail
                obtain ⟨A, hA⟩ : ∃ A, A = (shuf (ordN y) (iota (ordN y)) Kn).1 := ⟨_, rfl⟩
                obtain ⟨Z, hZ⟩ : ∃ Z, Z = (shuf (ordN y) (iota (ordN y)) Kn).2 := ⟨_, rfl⟩
                have hdr : Below W6.heap.size W6 W6.drew := (Below.refl _ _).drew
                have hal : A.length ≤ 9223372036854775807 := by rw [hA, shuf_len _ _ _ (iota_len _)]; unfold ordN; split <;> omega
                have HA := Lib.hid (show PkP W6.drew w3.heap.size p cp Kn ∧ RPk W6.drew w.heap.size (pr + 1) pr Kn ∧ Below w.heap.size w W6.drew from ⟨HST.out.1.ext (hdr.mono HST.out.1.top), HST.out.2.1.ext (hdr.mono HST.out.2.1.top), HST.out.2.2.trans (hdr.mono HST.out.2.2.size)⟩)
                have hcd := HY.out W6.drew HA.out.2.2
                have htp := HA.out.2.1.top
                have hsv : w.heap.size ≤ W6.drew.heap.size := HA.out.2.2.size
                have cs := Lib.hid (shuffle_any w3.heap.size p cp Kn y W6.drew HA.out.1 hfy.1 hfy.2)
                have cr := Lib.hid (fun W (h : RPk W w.heap.size (pr + 1) pr Kn) => rshuffle_any w.heap.size (pr + 1) pr Kn y W h hfy.1 hfy.2)
                rw [← hA, ← hZ] at cs cr
                have HAZ := Lib.hid (And.intro hA hZ)
                clear hA hZ hdr
                go_region_held3 (fun W => W.cell? ⟨g3, off3 + i, none⟩ = some (.int .i64 y))
                  (first | exact hcd | exact hc7 | exact hc8 | exact hc9) (first
                    | (go_at_call 14; go_must (refine cs.out.mono ?_; rintro e W7 ⟨⟨v7, rfl, hv7⟩, h7, o7⟩; obtain ⟨q7, c7, rfl, s7⟩ := hv7.slice; have h7s := o7.size; have hr7 := HA.out.2.1.keep o7 (by omega) (by omega); have hb7 := HA.out.2.2.trans (o7.below hsv (fun k e => by omega)); have hc7 := HY.out W7 hb7; have H7 := Lib.hid (And.intro hv7 (And.intro h7 (And.intro hr7 hb7))); clear hv7 h7 o7 hr7 hb7 s7))
                    | (go_at_call 15; go_must (refine (cr.out W7 H7.out.2.2.1).mono ?_; rintro e W8 ⟨⟨v8, rfl, hv8⟩, h8, o8⟩; obtain ⟨q8, c8, rfl, s8⟩ := hv8.slice; have h8s := o8.size; have hv78 := H7.out.1.keep o8 (fun k hk => by omega); have hp8 := H7.out.2.1.keep o8 (by omega) (by omega); have hb8 := H7.out.2.2.2.trans (o8.below (by omega) (fun k e => by omega)); have hc8 := HY.out W8 hb8; have H8 := Lib.hid (And.intro hv78 (And.intro hv8 (And.intro hp8 (And.intro h8 hb8)))); clear hv78 hv8 hp8 h8 hb8 o8 s8))
                    | (go_at_call 13; go_must (refine (numbers_any q7 q8 c7 c8 A A W8 hal hal H8.out.1.src_ H8.out.2.1.src_).mono ?_; rintro e W9 ⟨rfl, b9⟩; rw [show decide (A = A) = true from decide_eq_true rfl]; have hs9 := b9.size; have hp9 := H8.out.2.2.1.ext (b9.mono H8.out.2.2.1.top); have hr9 := H8.out.2.2.2.1.ext (b9.mono H8.out.2.2.2.1.top); have hb9 := H8.out.2.2.2.2.trans (b9.mono H8.out.2.2.2.2.size); have hc9 := HY.out W9 hb9; have H9 := Lib.hid (And.intro hp9 (And.intro hr9 hb9)); clear hp9 hr9 hb9 b9)))
                clear HST
                have HST := H9
                clear H9 hcd c3
                have cl := (RPk.slot HST.out.2.1)
                obtain ⟨qx, capx, cx⟩ := cl
                have hld := Lib.hid (fun n => left_drew w3.heap.size p cp Z W9 n HST.out.1)
                go_wp2_with fail
                go_big_quiet ((go_at_call 16; exact hld.out _))
                go_wp2_with fail
                go_roundw
                case rel =>
                  have bq := ext_drewN (ext_refl W9) nq
                  exact ⟨i + 1, by go_num, by omega, Z, HST.out.1.ext (bq.mono HST.out.1.top), HST.out.2.1.ext (bq.mono HST.out.2.1.top), HST.out.2.2.trans (bq.mono HST.out.2.2.size)⟩
                case measure => simp [intOf] <;> omega
              · go_wp2_with fail
                have cl := (RPk.slot HST.out.2.1)
                obtain ⟨qx, capx, cx⟩ := cl
                have hld := Lib.hid (fun n => left_drew w3.heap.size p cp Kn W6 n HST.out.1)
                go_wp2_with fail
                go_big_quiet ((go_at_call 16; exact hld.out _))
                go_wp2_with fail
                go_roundw
                case rel =>
                  have bq := ext_drewN (ext_refl W6) nq
                  exact ⟨i + 1, by go_num, by omega, Kn, HST.out.1.ext (bq.mono HST.out.1.top), HST.out.2.1.ext (bq.mono HST.out.2.1.top), HST.out.2.2.trans (bq.mono HST.out.2.2.size)⟩
                case measure => simp [intOf] <;> omega
            · go_wp2_with fail
              have cl := (RPk.slot HST.out.2.1)
              obtain ⟨qx, capx, cx⟩ := cl
              have hld := Lib.hid (fun n => left_drew w3.heap.size p cp Kn W6 n HST.out.1)
              go_wp2_with fail
              go_big_quiet ((go_at_call 16; exact hld.out _))
              go_wp2_with fail
              go_roundw
              case rel =>
                have bq := ext_drewN (ext_refl W6) nq
                exact ⟨i + 1, by go_num, by omega, Kn, HST.out.1.ext (bq.mono HST.out.1.top), HST.out.2.1.ext (bq.mono HST.out.2.1.top), HST.out.2.2.trans (bq.mono HST.out.2.2.size)⟩
              case measure => simp [intOf] <;> omega
          · go_wp2_with fail
            go_big_quiet (fail)
            have bq := ext_drewN (ext_refl wr) nq
            have HSN := Lib.hid (show PkP (wr.drewN nq) w3.heap.size p cp K ∧ RPk (wr.drewN nq) w.heap.size (pr + 1) pr K ∧ Below w.heap.size w (wr.drewN nq) from ⟨HST.out.1.ext (bq.mono HST.out.1.top), HST.out.2.1.ext (bq.mono HST.out.2.1.top), HST.out.2.2.trans (bq.mono HST.out.2.2.size)⟩)
            obtain ⟨V, hV⟩ : ∃ V, V = wr.drewN nq := ⟨_, rfl⟩
            rw [← hV] at HSN ⊢
            clear HST bq hV
            have HST := HSN
            clear HSN
            by_cases hd : i < D.length
            · obtain ⟨g3, off3, rfl, hg3, hcell3⟩ := HS3.out i hd
              obtain ⟨y, hy⟩ : ∃ y, y = D[i] := ⟨_, rfl⟩
              have hfy := HF3.out y (by rw [hy]; exact List.getElem_mem hd)
              have hcy : ∀ W, Below w.heap.size w W → W.cell? ⟨g3, off3 + i, none⟩ = some (.int .i64 y) := fun W h => (h.cell (p := ⟨g3, off3 + i, none⟩) hg3).trans (hcell3 i y (by rw [hy]; exact List.getElem?_eq_getElem hd))
              have HY := Lib.hid hcy
              have c3 := hcy V HST.out.2.2
              clear hcell3 hy hcy
              by_cases hy50 : y < 50
              · go_wp2_with fail
                obtain ⟨A, hA⟩ : ∃ A, A = (shuf (ordN y) (iota (ordN y)) K).1 := ⟨_, rfl⟩
                obtain ⟨Z, hZ⟩ : ∃ Z, Z = (shuf (ordN y) (iota (ordN y)) K).2 := ⟨_, rfl⟩
                have hdr : Below V.heap.size V V.drew := (Below.refl _ _).drew
                have hal : A.length ≤ 9223372036854775807 := by rw [hA, shuf_len _ _ _ (iota_len _)]; unfold ordN; split <;> omega
                have HA := Lib.hid (show PkP V.drew w3.heap.size p cp K ∧ RPk V.drew w.heap.size (pr + 1) pr K ∧ Below w.heap.size w V.drew from ⟨HST.out.1.ext (hdr.mono HST.out.1.top), HST.out.2.1.ext (hdr.mono HST.out.2.1.top), HST.out.2.2.trans (hdr.mono HST.out.2.2.size)⟩)
                have hcd := HY.out V.drew HA.out.2.2
                have htp := HA.out.2.1.top
                have hsv : w.heap.size ≤ V.drew.heap.size := HA.out.2.2.size
                have cs := Lib.hid (shuffle_any w3.heap.size p cp K y V.drew HA.out.1 hfy.1 hfy.2)
                have cr := Lib.hid (fun W (h : RPk W w.heap.size (pr + 1) pr K) => rshuffle_any w.heap.size (pr + 1) pr K y W h hfy.1 hfy.2)
                rw [← hA, ← hZ] at cs cr
                have HAZ := Lib.hid (And.intro hA hZ)
                clear hA hZ hdr
                go_region_held3 (fun W => W.cell? ⟨g3, off3 + i, none⟩ = some (.int .i64 y))
                  (first | exact hcd | exact hc7 | exact hc8 | exact hc9) (first
                    | (go_at_call 14; go_must (refine cs.out.mono ?_; rintro e W7 ⟨⟨v7, rfl, hv7⟩, h7, o7⟩; obtain ⟨q7, c7, rfl, s7⟩ := hv7.slice; have h7s := o7.size; have hr7 := HA.out.2.1.keep o7 (by omega) (by omega); have hb7 := HA.out.2.2.trans (o7.below hsv (fun k e => by omega)); have hc7 := HY.out W7 hb7; have H7 := Lib.hid (And.intro hv7 (And.intro h7 (And.intro hr7 hb7))); clear hv7 h7 o7 hr7 hb7 s7))
                    | (go_at_call 15; go_must (refine (cr.out W7 H7.out.2.2.1).mono ?_; rintro e W8 ⟨⟨v8, rfl, hv8⟩, h8, o8⟩; obtain ⟨q8, c8, rfl, s8⟩ := hv8.slice; have h8s := o8.size; have hv78 := H7.out.1.keep o8 (fun k hk => by omega); have hp8 := H7.out.2.1.keep o8 (by omega) (by omega); have hb8 := H7.out.2.2.2.trans (o8.below (by omega) (fun k e => by omega)); have hc8 := HY.out W8 hb8; have H8 := Lib.hid (And.intro hv78 (And.intro hv8 (And.intro hp8 (And.intro h8 hb8)))); clear hv78 hv8 hp8 h8 hb8 o8 s8))
                    | (go_at_call 13; go_must (refine (numbers_any q7 q8 c7 c8 A A W8 hal hal H8.out.1.src_ H8.out.2.1.src_).mono ?_; rintro e W9 ⟨rfl, b9⟩; rw [show decide (A = A) = true from decide_eq_true rfl]; have hs9 := b9.size; have hp9 := H8.out.2.2.1.ext (b9.mono H8.out.2.2.1.top); have hr9 := H8.out.2.2.2.1.ext (b9.mono H8.out.2.2.2.1.top); have hb9 := H8.out.2.2.2.2.trans (b9.mono H8.out.2.2.2.2.size); have hc9 := HY.out W9 hb9; have H9 := Lib.hid (And.intro hp9 (And.intro hr9 hb9)); clear hp9 hr9 hb9 b9)))
                clear HST
                have HST := H9
                clear H9 hcd c3
                have cl := (RPk.slot HST.out.2.1)
                obtain ⟨qx, capx, cx⟩ := cl
                have hld := Lib.hid (fun n => left_drew w3.heap.size p cp Z W9 n HST.out.1)
                go_wp2_with fail
                go_big_quiet ((go_at_call 16; exact hld.out _))
                go_wp2_with fail
                go_roundw
                case rel =>
                  have bq := ext_drewN (ext_refl W9) nq
                  exact ⟨i + 1, by go_num, by omega, Z, HST.out.1.ext (bq.mono HST.out.1.top), HST.out.2.1.ext (bq.mono HST.out.2.1.top), HST.out.2.2.trans (bq.mono HST.out.2.2.size)⟩
                case measure => simp [intOf] <;> omega
              · go_wp2_with fail
                have cl := (RPk.slot HST.out.2.1)
                obtain ⟨qx, capx, cx⟩ := cl
                have hld := Lib.hid (fun n => left_drew w3.heap.size p cp K V n HST.out.1)
                go_wp2_with fail
                go_big_quiet ((go_at_call 16; exact hld.out _))
                go_wp2_with fail
                go_roundw
                case rel =>
                  have bq := ext_drewN (ext_refl V) nq
                  exact ⟨i + 1, by go_num, by omega, K, HST.out.1.ext (bq.mono HST.out.1.top), HST.out.2.1.ext (bq.mono HST.out.2.1.top), HST.out.2.2.trans (bq.mono HST.out.2.2.size)⟩
                case measure => simp [intOf] <;> omega
            · go_wp2_with fail
              have cl := (RPk.slot HST.out.2.1)
              obtain ⟨qx, capx, cx⟩ := cl
              have hld := Lib.hid (fun n => left_drew w3.heap.size p cp K V n HST.out.1)
              go_wp2_with fail
              go_big_quiet ((go_at_call 16; exact hld.out _))
              go_wp2_with fail
              go_roundw
              case rel =>
                have bq := ext_drewN (ext_refl V) nq
                exact ⟨i + 1, by go_num, by omega, K, HST.out.1.ext (bq.mono HST.out.1.top), HST.out.2.1.ext (bq.mono HST.out.2.1.top), HST.out.2.2.trans (bq.mono HST.out.2.2.size)⟩
              case measure => simp [intOf] <;> omega
        · obtain ⟨K, hST⟩ := HH.out
          clear HH
          go_wp2
          go_ret
          exact ⟨rfl, hST.2.2⟩

/- FRAME -/

set_option maxRecDepth 100000 in
theorem picksPlays_lifted (os : Os) (started : os.Started) (H : Type) (enc : TypeId × Value → H) :
    ReturnsInHanded {} Try.checked os 3 .any (Rows.picksPlaysSpec.pre6 enc Try.prog Try.f3 Rows.picksPlaysRow.domain false) (Rows.picksPlaysSpec.post enc Try.prog Try.f3 false true false false) := by
  refine returnsInHanded_of_change_sized (C := Try.checked) Try.own started (by kernel_rfl) Try.func3
    (ChangeSpec.witness6 (enc := enc) (C := Try.checked) false ⟨#[], #[.slice none 0 0, .slice none 0 0, .slice none 0 0], []⟩ 8 (by kernel_rfl) (by kernel_rfl) (by kernel_rfl) (by kernel_rfl)) ?_
  intro W base args ds gs before hval0 hW _ hsz _
  have hval : ∀ (j : Nat) t v, Try.f3.params[j]? = some t → args[j]? = some v → Value.okWide Try.prog W .any base t v := hval0
  have hW' := hW
  obtain ⟨p, q, hA0, hV, rfl, _, _⟩ := hW
  have hA : DataW.TrodAll enc Try.prog W 0 (fun _ => true) true Try.f3.params.toList args.toList ds p := hA0
  rw [Try.params3] at hA hval hsz
  obtain ⟨v0, v1, v2, d0, d1, d2, p0, p1, p2, rfl, rfl, rfl, h0, h1, h2⟩ := trodAll_three hA
  obtain ⟨q0, c0, L0, rfl, le0, m0, sx0, fx0, td0⟩ := open_ints (hval 0 22 v0 rfl rfl) h0
  obtain ⟨q1, c1, L1, rfl, le1, m1, sx1, fx1, td1⟩ := open_ints (hval 1 22 v1 rfl rfl) h1
  obtain ⟨q2, c2, L2, rfl, le2, m2, sx2, fx2, td2⟩ := open_ints (hval 2 22 v2 rfl rfl) h2
  have zz0 := ints_reach td0 (fun n hn => of_decide_eq_true (List.all_eq_true.1 hsz _ (DataW.weights_mem_each (j := 0) (t := 22) rfl rfl n hn)))
  have zz1 := ints_reach td1 (fun n hn => of_decide_eq_true (List.all_eq_true.1 hsz _ (DataW.weights_mem_each (j := 1) (t := 22) rfl rfl n hn)))
  have zz2 := ints_reach td2 (fun n hn => of_decide_eq_true (List.all_eq_true.1 hsz _ (DataW.weights_mem_each (j := 2) (t := 22) rfl rfl n hn)))
  clear hA0 hval0
  refine (plays_walk q0 q1 q2 c0 c1 c2 L0 L1 L2 W le0 m0 sx0 fx0 sx1 fx1 sx2 fx2 zz0).mono fun e W' ⟨he, hb⟩ => ⟨_, he, post_law rfl hW' rfl rfl ?_ hb⟩
  intro t ht
  rw [Try.params3] at ht
  simp only [List.mem_cons, List.not_mem_nil, or_false] at ht
  rcases ht with rfl | rfl | rfl <;> exact ⟨by kernel_rfl, of_decide_eq_true (by kernel_rfl)⟩

theorem picksPlays_holds : Rows.PicksPlaysSaid :=
  OpenClaim.holds_of_wide 3 Try.f3 rfl rfl rfl rfl rfl rfl rfl ⟨rfl, rfl, rfl, rfl, rfl⟩ rfl rfl rfl rfl rfl (by kernel_rfl) Try.func3 (by kernel_rfl)
    (of_decide_eq_true (by kernel_rfl)) (by unfold Func.isWrapper; rw [if_neg (of_decide_eq_false (by kernel_rfl))]; exact ⟨rfl, rfl⟩)
    (fun os started H enc _ => picksPlays_lifted os started H enc)

#print axioms picksPlays_holds

end Go.Proofs.Ytklfccdjmlmmgaa
