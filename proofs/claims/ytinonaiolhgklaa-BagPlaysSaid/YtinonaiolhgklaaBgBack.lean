/- What is left without what came is what was there; two bags are the same just if each is within the other; order plays no part: whatever the texts. Conditions: none. -/
import Derived.Test.YtinonaiolhgklaaBgE
import Derived.Test.YtinonaiolhgklaaBgO
import Derived.Deep.Upon
namespace Go.Proofs.Ytinonaiolhgklaa
open Go.ChangeShapes Go.WideShapes Go.ChangeAt Go.RowKit Go.Joins Go.Maps
open Go.Proofs (encStr)

theorem Try.infoStr : (Try.prog.info? 9).map (fun i => (i.zero, i.size, i.bytes)) = some (some (.string ⟨#[]⟩), 1, 16) := by kernel_rfl
theorem OwnS.later {w w' : World} {base : Nat} {v : Value} {l : List Txt} (h : OwnS w base v l) (hb : Below w.heap.size w w') : OwnS w' base v l := by
  obtain ⟨h1, h2⟩ := h
  refine ⟨h1, ?_⟩
  rcases h2 with h2 | ⟨g, cap, cur, hv, hg, hh, r⟩
  · exact .inl h2
  · have hlt : g < w.heap.size := by
      rcases Nat.lt_or_ge g w.heap.size with h | h
      · exact h
      · rw [Array.getElem?_eq_none h] at hh; cases hh
    exact .inr ⟨g, cap, cur, hv, hg, by rw [hb.block g hlt]; exact hh, r⟩
theorem wp_append_str {w : World} {ops : Array Oper} {rest : List Oper} {o : Oper} {a : Act} {Q : Exit → Act → World → Prop} (hgd : o.guard = none) (s x : Operand)
    (ho : o.op = .call { callee := .builtin .append, args := #[s, x], argTypes := #[22, 22] }) (base : Nat) (v : Value) (l : List Txt) (hs : a.eval s = v) (hown : OwnS w base v l)
    (y : Txt) (g c : Nat) (hx : a.eval x = .slice (some ⟨g, 0, none⟩) 1 c) (hc : w.cell? ⟨g, 0, none⟩ = some (encStr y)) (hlen : l.length < 1099511627776) (hbase : base ≤ w.heap.size)
    (h : ∀ v' w', OwnS w' base v' (l ++ [y]) → Below base w w' → wpList Try.prog ops Q rest (a.put o.dst v') w') : wpList Try.prog ops Q (o :: rest) a w := by
  obtain ⟨i0, hi, hz0, hz1, hz2⟩ := info_parts Try.infoStr
  refine wpList_append_own w hgd s x 22 ho base 9 i0 (.string ⟨#[]⟩) 1 16 Try.underlying22 hi hz0 hz1 hz2 rfl (by decide) v l.length _ hs hown ⟨g, 0, none⟩ 1 c [encStr y] hx rfl ?_ ?_ ?_ ?_ hbase ?_
  · intro j u hj
    match j, hj with
    | 0, hj => simp at hj; subst hj; simpa [Addr.add] using hc
  · intro u hu
    simp at hu
    subst hu
    rfl
  · unfold maxLen; omega
  · omega
  · intro v' w' h1 h2 _
    refine h v' w' ?_ ((Below.refl _ _).grown h2 hbase fun k hk => (hown.lt _ hk).1)
    unfold OwnS
    rw [List.length_append, List.map_append]
    exact h1

theorem same_both (A B : List Txt) : same A B = (within A B && within B A) := by
  rw [Bool.eq_iff_iff, Bool.and_eq_true, same_iff, within_iff, within_iff]
  exact ⟨fun h => ⟨fun s => by rw [h s]; omega, fun s => by rw [h s]; omega⟩, fun h s => by have := h.1 s; have := h.2 s; omega⟩
theorem same_of {A B : List Txt} (h : ∀ s, A.count s = B.count s) : same A B = true := same_iff.2 h
/-- The first j texts from the last one on. -/
def back (T : Nat → ByteArray) (k j : Nat) : List Txt := (List.range j).map fun i => (T (k - 1 - i)).data.toList
theorem back_all (T : Nat → ByteArray) (k : Nat) : back T k k = (lst T k).reverse := by
  unfold back lst
  apply List.ext_getElem
  · simp
  · intro i h1 h2
    simp

set_option maxRecDepth 100000 in
set_option maxHeartbeats 4000000 in
theorem back_walk (q1 : Option Addr) (n1 c1 k1 : Nat) (T1 : Nat → ByteArray) (q2 : Option Addr) (n2 c2 k2 : Nat) (T2 : Nat → ByteArray) (w : World) (hc1 : n1 ≤ c1) (hc2 : n2 ≤ c2) (hn1 : n1 ≤ 9223372036854775807) (hn2 : n2 ≤ 9223372036854775807) (hm1 : min (n1 : Int) 200 = (k1 : Int)) (hm2 : min (n2 : Int) 200 = (k2 : Int))
    (hT1 : TxtP w q1 k1 T1) (hT2 : TxtP w q2 k2 T2) (hs1 : ∀ i, i < k1 → (T1 i).size ≤ 9223372036854775807) (hs2 : ∀ i, i < k2 → (T2 i).size ≤ 9223372036854775807) :
    Calls Try.prog 5 #[.slice q1 n1 c1, .slice q2 n2 c2] w fun e w' => e = .returned (.bool true) ∧ Below w.heap.size w w' := by
  have hk1 : k1 ≤ n1 := by omega
  have hk2 : k2 ≤ n2 := by omega
  have hl1 : k1 ≤ 200 := by omega
  have hl2 : k2 ≤ 200 := by omega
  go_enter Try.func5, Try.ntmps5
  go_wp2_with fail
  refine (ex3_any _).mono ?_
  rintro e w1 ⟨rfl, hb1⟩
  have hT11 := hT1.ext hb1
  have hT21 := hT2.ext hb1
  have E1 := Lib.hid hb1
  clear hT1 hT2 hb1
  go_wp2_with fail
  refine (of_any q1 k1 c1 T1 w1 hT11 (by omega) hs1).mono ?_
  rintro e w2 ⟨pa, ma, rfl, hA, hb2, hpa, hma⟩
  have hlA : (lst T1 k1).reverse.length = k1 := by rw [List.length_reverse, lst_length]
  obtain ⟨A, hAe⟩ : ∃ A, A = (lst T1 k1).reverse := ⟨_, rfl⟩
  rw [← hAe] at hA hlA
  have HAE := Lib.hid hAe
  have HLA := Lib.hid hlA
  have hT12 := hT11.ext hb2
  have hT22 := hT21.ext hb2
  have E2 := Lib.hid (ext_trans E1.out hb2)
  clear hT21 hT11 hb2 hlA hAe
  go_wp2_with fail
  refine (of_any q2 k2 c2 T2 w2 hT22 (by omega) hs2).mono ?_
  rintro e w3 ⟨pb, mb, rfl, hB, hb3, hpb, hmb⟩
  have hlB : (lst T2 k2).reverse.length = k2 := by rw [List.length_reverse, lst_length]
  generalize (lst T2 k2).reverse = B at hB hlB
  have HLB := Lib.hid hlB
  have hA3 := hA.ext hb3
  have hT13 := hT12.ext hb3
  have E3 := Lib.hid (ext_trans E2.out hb3)
  clear hT22 hT12 hb3 hlB hA hs2
  go_wp2_with fail
  refine (both_any pa ma k1 pb mb k2 A B w3 hA3 hB (by have := HLA.out; have := HLB.out; omega)).mono ?_
  rintro e w4 ⟨pc, mc, C, rfl, hC, hcc, hb4, hpc, hmc⟩
  have hA4 := Lib.hid (hA3.ext hb4)
  have hB4 := Lib.hid (hB.ext hb4)
  have hC4 := Lib.hid hC
  have E4 := Lib.hid (ext_trans E3.out hb4)
  have HT := Lib.hid (hT13.ext hb4)
  have HCC := Lib.hid hcc
  have HLC := Lib.hid (show C.length = A.length + B.length from by
    have h1 := length_of_counts (A := C) (B := A ++ B) fun s => by rw [hcc s, List.count_append]; omega
    have h2 := length_of_counts (A := A ++ B) (B := C) fun s => by rw [hcc s, List.count_append]; omega
    rw [List.length_append] at h1 h2
    omega)
  clear hA3 hB hb4 hcc hT13 hC
  go_wp2_with fail
  go_loopw [9, 10] (fun vt vi wr => ∃ (j : Nat) (z : Int), vi = .int .i64 z ∧ j ≤ k1 ∧ Hid (z = (k1 : Int) - 1 - (j : Int)) ∧ Hid (OwnS wr w4.heap.size vt (back T1 k1 j) ∧ Below w4.heap.size w4 wr)) (fun vt vi _ => (intOf vi + 1).toNat)
  case atStart => exact ⟨0, (k1 : Int) - 1, by first | rfl | go_num, Nat.zero_le _, by show _ = _; omega, ⟨World.ownsRow_nil _ _ _ _, Below.refl _ _⟩⟩
  case round =>
    obtain ⟨j, z, rfl, hj, HZ, HH⟩ := hrel
    by_cases hlt : j < k1
    · obtain ⟨i, hi⟩ : ∃ i, i = k1 - 1 - j := ⟨_, rfl⟩
      have hzi : z = (i : Int) := by have := HZ.out; omega
      subst hzi
      obtain ⟨b, off, hq, hb, hc⟩ := HT.out i (by omega)
      have c0 := (HH.out.2.cell (p := ⟨b, _, none⟩) hb).trans (hc i (by omega))
      subst hq
      clear hc
      have hik : i < k1 := by omega
      have HI := Lib.hid hi
      clear hi
      go_wp2_with (at_builtin; refine wp_append_str rfl _ _ rfl w4.heap.size _ _ rfl (HH.out.1.later ?d1) (T1 i).data.toList _ _ rfl ?d2 ?d3 ?d4 ?_)
      case d1 => exact (Below.refl _ _).alloc (Nat.le_refl _) _
      case d2 => rw [Lib.cell_of_heap (heap_alloc_new _ _)]; simp [encStr]
      case d3 => unfold back; simp; omega
      case d4 => have := HH.out.2.size; simp; omega
      intro v' w' HO' hb'
      go_wp2
      go_roundw
      case rel =>
        refine ⟨j + 1, (i : Int) - 1, by first | rfl | go_num, hlt, by show _ = _; have := HI.out; omega, ⟨?_, HH.out.2.trans (((Below.refl _ _).alloc HH.out.2.size _).trans hb')⟩⟩
        unfold back
        rw [List.range_succ, List.map_append]
        simpa [back, ← HI.out] using HO'
      case measure => simp [intOf] <;> omega
    · have hjk : j = k1 := by omega
      subst hjk
      have hz1 : z = -1 := by have := HZ.out; omega
      subst hz1
      obtain ⟨Y, hY⟩ : ∃ Y, Y = wr := ⟨_, rfl⟩
      subst hY
      obtain ⟨pt, ct, hv, _, _, hcs⟩ := HH.out.1.src
      have hbl : (back T1 j j).length = j := by unfold back; simp
      rw [hbl] at hv
      subst hv
      have hbY := HH.out.2
      have hA5 := hA4.out.ext hbY
      have hB5 := hB4.out.ext hbY
      have hC5 := hC4.out.ext hbY
      have E5 := Lib.hid (ext_trans E4.out hbY)
      have hTT : TxtP Y pt j (fun i => ⟨((back T1 j j)[i]?.getD []).toArray⟩) := fun k hk => by
        obtain ⟨g, h1, _, h3, h4⟩ := hcs k (by rw [hbl]; exact hk)
        exact ⟨g, 0, h1, h3, fun i hi => by rw [Nat.zero_add]; exact h4 i _ (by rw [List.getElem?_eq_getElem (by rw [hbl]; exact hi)]; rfl)⟩
      have hTL : lst (fun i => (⟨((back T1 j j)[i]?.getD []).toArray⟩ : ByteArray)) j = back T1 j j := by
        apply List.ext_getElem
        · rw [lst_length, hbl]
        · intro i h1 h2
          simp [lst, h2]
      have hTS : ∀ i, i < j → ((fun i => (⟨((back T1 j j)[i]?.getD []).toArray⟩ : ByteArray)) i).size ≤ 9223372036854775807 := fun i hi => by
        have e : (back T1 j j)[i]? = some (T1 (j - 1 - i)).data.toList := by simp [back, hi]
        have h1 := hs1 (j - 1 - i) (by omega)
        show ((back T1 j j)[i]?.getD []).toArray.size ≤ _
        rw [e]
        simpa using h1
      have HTL := Lib.hid hTL
      clear HZ HH hA4 hB4 hC4 E4 HT hcs hbl hTL hbY
      have hcall := of_any pt j ct _ Y hTT (by omega) hTS
      clear hTT hTS
      go_wp2_with fail
      refine hcall.mono ?_
      clear hcall
      rintro e w6 ⟨pd, md, rfl, hD, hb6, hpd, hmd⟩
      rw [HTL.out, back_all, List.reverse_reverse] at hD
      obtain ⟨D, hDe⟩ : ∃ D, D = lst T1 j := ⟨_, rfl⟩
      rw [← hDe] at hD
      have HDD := Lib.hid (show ∀ s, A.count s = D.count s from fun s => by rw [HAE.out, hDe, List.count_reverse])
      have hA6 := hA5.ext hb6
      have hB6 := hB5.ext hb6
      have hC6 := hC5.ext hb6
      have E6 := Lib.hid (ext_trans E5.out hb6)
      clear hA5 hB5 hC5 hb6 hDe HAE
      go_wp2_with fail
      refine (less_any pc mc _ pb mb _ C B w6 hC6 hB6 (by have := HLA.out; have := HLB.out; have := HLC.out; omega) (by have := HLB.out; omega)).mono ?_
      rintro e w7 ⟨pe, me, F, rfl, hF, hcf, hb7, hpe, hme⟩
      have HFA := Lib.hid (show ∀ s, F.count s = A.count s from fun s => by rw [hcf s, HCC.out s]; omega)
      have hA7 := hA6.ext hb7
      have hB7 := hB6.ext hb7
      have hC7 := hC6.ext hb7
      have hD7 := hD.ext hb7
      have E7 := Lib.hid (ext_trans E6.out hb7)
      clear hA6 hB6 hC6 hD hb7 hcf
      go_wp2_with fail
      refine (same_any pe me _ pa ma _ F A w7 hF hA7).mono ?_
      rintro e w8 ⟨rfl, hb8⟩
      rw [same_of HFA.out]
      have hA8 := hA7.ext hb8
      have hB8 := hB7.ext hb8
      have hC8 := hC7.ext hb8
      have hD8 := hD7.ext hb8
      have E8 := Lib.hid (ext_trans E7.out hb8)
      clear hA7 hB7 hC7 hD7 hb8 hF
      go_wp2_with fail
      refine (same_any pa ma _ pd md _ A D w8 hA8 hD8).mono ?_
      rintro e w9 ⟨rfl, hb9⟩
      rw [same_of HDD.out]
      have hA9 := hA8.ext hb9
      have hB9 := hB8.ext hb9
      have hC9 := hC8.ext hb9
      have E9 := Lib.hid (ext_trans E8.out hb9)
      clear hA8 hB8 hC8 hD8 hb9
      go_wp2_with fail
      refine (same_any pa ma _ pb mb _ A B w9 hA9 hB9).mono ?_
      rintro e w10 ⟨rfl, hb10⟩
      have hA10 := hA9.ext hb10
      have hB10 := hB9.ext hb10
      have hC10 := hC9.ext hb10
      have E10 := Lib.hid (ext_trans E9.out hb10)
      have HSB := Lib.hid (same_both A B)
      clear hA9 hB9 hC9 hb10
      go_wp2_with fail
      refine (within_any pa ma _ pb mb _ A B w10 hA10 hB10).mono ?_
      rintro e w11 ⟨rfl, hb11⟩
      have hA11 := hA10.ext hb11
      have hB11 := hB10.ext hb11
      have hC11 := hC10.ext hb11
      have E11 := Lib.hid (ext_trans E10.out hb11)
      clear hA10 hB10 hC10 hb11
      cases hw1 : within A B
      · rw [hw1, Bool.false_and] at HSB
        rw [HSB.out]
        go_wp2_with fail
        refine (len_any pc mc _ C w11 hC11).mono ?_
        rintro e x1 ⟨rfl, rfl⟩
        go_wp2_with fail
        refine (len_any pa ma _ A x1 hA11).mono ?_
        rintro e x2 ⟨rfl, rfl⟩
        go_wp2_with fail
        refine (len_any pb mb _ B x2 hB11).mono ?_
        rintro e x3 ⟨rfl, rfl⟩
        have hlz : (C.length : Int) = (A.length : Int) + (B.length : Int) := by have := HLC.out; omega
        have hla : A.length ≤ 200 := by have := HLA.out; omega
        have hlb : B.length ≤ 200 := by have := HLB.out; omega
        rw [hlz]
        go_wp2_with fail
        refine (within_any pa ma _ pc mc _ A C x3 hA11 hC11).mono ?_
        rintro e y1 ⟨rfl, hy1⟩
        rw [show within A C = true from within_iff.2 fun s => by rw [HCC.out s]; omega]
        have hA1 := hA11.ext hy1
        have hB1 := hB11.ext hy1
        have hC1 := hC11.ext hy1
        have hE1 := Lib.hid (ext_trans E11.out hy1)
        clear hy1 hlz
        go_wp2_with fail
        refine (both_any pb mb _ pa ma _ B A y1 hB1 hA1 (by omega)).mono ?_
        rintro e y2 ⟨pg, mg, G, rfl, hG, hcg, hy2, hpg, hmg⟩
        have hC2 := hC1.ext hy2
        have hE2 := Lib.hid (ext_trans hE1.out hy2)
        have HCG := Lib.hid (show ∀ s, C.count s = G.count s from fun s => by rw [HCC.out s, hcg s]; omega)
        clear hA1 hB1 hC1 hy2 hcg
        go_wp2_with fail
        refine (same_any pc mc _ pg mg _ C G y2 hC2 hG).mono ?_
        rintro e y3 ⟨rfl, hy3⟩
        rw [same_of HCG.out]
        go_wp2
        go_ret
        exact ⟨rfl, ext_trans hE2.out hy3⟩
      · rw [hw1, Bool.true_and] at HSB
        rw [HSB.out]
        go_wp2_with fail
        refine (within_any pb mb _ pa ma _ B A w11 hB11 hA11).mono ?_
        rintro e w12 ⟨rfl, hb12⟩
        have hA12 := hA11.ext hb12
        have hB12 := hB11.ext hb12
        have hC12 := hC11.ext hb12
        have E12 := Lib.hid (ext_trans E11.out hb12)
        clear hA11 hB11 hC11 hb12
        cases hw2 : within B A
        · skip
          go_wp2_with fail
          refine (len_any pc mc _ C w12 hC12).mono ?_
          rintro e x1 ⟨rfl, rfl⟩
          go_wp2_with fail
          refine (len_any pa ma _ A x1 hA12).mono ?_
          rintro e x2 ⟨rfl, rfl⟩
          go_wp2_with fail
          refine (len_any pb mb _ B x2 hB12).mono ?_
          rintro e x3 ⟨rfl, rfl⟩
          have hlz : (C.length : Int) = (A.length : Int) + (B.length : Int) := by have := HLC.out; omega
          have hla : A.length ≤ 200 := by have := HLA.out; omega
          have hlb : B.length ≤ 200 := by have := HLB.out; omega
          rw [hlz]
          go_wp2_with fail
          refine (within_any pa ma _ pc mc _ A C x3 hA12 hC12).mono ?_
          rintro e y1 ⟨rfl, hy1⟩
          rw [show within A C = true from within_iff.2 fun s => by rw [HCC.out s]; omega]
          have hA1 := hA12.ext hy1
          have hB1 := hB12.ext hy1
          have hC1 := hC12.ext hy1
          have hE1 := Lib.hid (ext_trans E12.out hy1)
          clear hy1 hlz
          go_wp2_with fail
          refine (both_any pb mb _ pa ma _ B A y1 hB1 hA1 (by omega)).mono ?_
          rintro e y2 ⟨pg, mg, G, rfl, hG, hcg, hy2, hpg, hmg⟩
          have hC2 := hC1.ext hy2
          have hE2 := Lib.hid (ext_trans hE1.out hy2)
          have HCG := Lib.hid (show ∀ s, C.count s = G.count s from fun s => by rw [HCC.out s, hcg s]; omega)
          clear hA1 hB1 hC1 hy2 hcg
          go_wp2_with fail
          refine (same_any pc mc _ pg mg _ C G y2 hC2 hG).mono ?_
          rintro e y3 ⟨rfl, hy3⟩
          rw [same_of HCG.out]
          go_wp2
          go_ret
          exact ⟨rfl, ext_trans hE2.out hy3⟩
        · skip
          go_wp2_with fail
          refine (len_any pc mc _ C w12 hC12).mono ?_
          rintro e x1 ⟨rfl, rfl⟩
          go_wp2_with fail
          refine (len_any pa ma _ A x1 hA12).mono ?_
          rintro e x2 ⟨rfl, rfl⟩
          go_wp2_with fail
          refine (len_any pb mb _ B x2 hB12).mono ?_
          rintro e x3 ⟨rfl, rfl⟩
          have hlz : (C.length : Int) = (A.length : Int) + (B.length : Int) := by have := HLC.out; omega
          have hla : A.length ≤ 200 := by have := HLA.out; omega
          have hlb : B.length ≤ 200 := by have := HLB.out; omega
          rw [hlz]
          go_wp2_with fail
          refine (within_any pa ma _ pc mc _ A C x3 hA12 hC12).mono ?_
          rintro e y1 ⟨rfl, hy1⟩
          rw [show within A C = true from within_iff.2 fun s => by rw [HCC.out s]; omega]
          have hA1 := hA12.ext hy1
          have hB1 := hB12.ext hy1
          have hC1 := hC12.ext hy1
          have hE1 := Lib.hid (ext_trans E12.out hy1)
          clear hy1 hlz
          go_wp2_with fail
          refine (both_any pb mb _ pa ma _ B A y1 hB1 hA1 (by omega)).mono ?_
          rintro e y2 ⟨pg, mg, G, rfl, hG, hcg, hy2, hpg, hmg⟩
          have hC2 := hC1.ext hy2
          have hE2 := Lib.hid (ext_trans hE1.out hy2)
          have HCG := Lib.hid (show ∀ s, C.count s = G.count s from fun s => by rw [HCC.out s, hcg s]; omega)
          clear hA1 hB1 hC1 hy2 hcg
          go_wp2_with fail
          refine (same_any pc mc _ pg mg _ C G y2 hC2 hG).mono ?_
          rintro e y3 ⟨rfl, hy3⟩
          rw [same_of HCG.out]
          go_wp2
          go_ret
          exact ⟨rfl, ext_trans hE2.out hy3⟩

/- FRAME -/

set_option maxRecDepth 100000 in
theorem bagBack_lifted (os : Os) (started : os.Started) (H : Type) (enc : TypeId × Value → H) :
    ReturnsInHanded {} Try.checked os 5 .any (Rows.bagBackSpec.pre6 enc Try.prog Try.f5 Rows.bagBackRow.domain false) (Rows.bagBackSpec.post enc Try.prog Try.f5 false true false false) := by
  refine returnsInHanded_of_change (C := Try.checked) Try.own started (by kernel_rfl) Try.func5
    (ChangeSpec.witness6 (enc := enc) (C := Try.checked) false ⟨#[], #[.slice none 0 0, .slice none 0 0], []⟩ 8 (by kernel_rfl) (by kernel_rfl) (by kernel_rfl) (by kernel_rfl)) ?_
  intro W base args ds gs before hval0 hW _ _
  have hval : ∀ (j : Nat) t v, Try.f5.params[j]? = some t → args[j]? = some v → Value.okWide Try.prog W .any base t v := hval0
  have hW' := hW
  obtain ⟨p, q, hA0, hV, rfl, _, _⟩ := hW
  have hA : DataW.TrodAll enc Try.prog W 0 (fun _ => true) true Try.f5.params.toList args.toList ds p := hA0
  rw [Try.params5] at hA hval
  obtain ⟨v0, v1, d0, d1, p0, p1, rfl, rfl, rfl, h0, h1⟩ := trodAll_two hA
  obtain ⟨q0, n0, c0, T0, rfl, le0, m0, tx0, ts0, td0⟩ := open_texts (hval 0 22 v0 rfl rfl) h0
  obtain ⟨q1, n1, c1, T1, rfl, le1, m1, tx1, ts1, td1⟩ := open_texts (hval 1 22 v1 rfl rfl) h1
  clear hA0 hval0
  refine (back_walk q0 n0 c0 (min n0 200) T0 q1 n1 c1 (min n1 200) T1 W le0 le1 m0 m1 (by omega) (by omega) (tx0.le (by omega)) (tx1.le (by omega)) (fun i hi => ts0 i (by omega)) (fun i hi => ts1 i (by omega))).mono fun e W' ⟨he, hb⟩ => ⟨_, he, post_law rfl hW' rfl rfl ?_ hb⟩
  intro t ht
  rw [Try.params5] at ht
  simp only [List.mem_cons, List.not_mem_nil, or_false] at ht
  rcases ht with rfl | rfl <;> exact ⟨by kernel_rfl, of_decide_eq_true (by kernel_rfl)⟩

theorem bagBack_holds : Rows.BagBackSaid :=
  OpenClaim.holds_of_wide 5 Try.f5 rfl rfl rfl rfl rfl rfl rfl ⟨rfl, rfl, rfl, rfl, rfl⟩ rfl rfl rfl rfl rfl (by kernel_rfl) Try.func5 (by kernel_rfl)
    (of_decide_eq_true (by kernel_rfl)) (by unfold Func.isWrapper; rw [if_neg (of_decide_eq_false (by kernel_rfl))]; exact ⟨rfl, rfl⟩)
    (fun os started H enc _ => bagBack_lifted os started H enc)

#print axioms bagBack_holds

end Go.Proofs.Ytinonaiolhgklaa
