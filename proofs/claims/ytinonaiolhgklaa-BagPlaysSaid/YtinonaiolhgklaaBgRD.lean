/- The law package's 'texts' and 'same'; the reference's Within, Same, Both, Less. -/
import Derived.Test.YtinonaiolhgklaaBgRC
namespace Go.Proofs.Ytinonaiolhgklaa
open Go.RowKit Go.Maps
open Go.Proofs (encStr)

/-- Texts in a slice. -/
def Sl (w : World) (q : Option Addr) (K : List Txt) : Prop := ∀ i, i < K.length → ∃ g, q = some ⟨g, 0, none⟩ ∧ g < w.heap.size ∧ ∀ j u, K[j]? = some u → w.cell? ⟨g, j, none⟩ = some (.string ⟨u.toArray⟩)
theorem Sl.ext {w w' : World} {q : Option Addr} {K : List Txt} (h : Sl w q K) (hb : Below w.heap.size w w') : Sl w' q K := fun i hi => by
  obtain ⟨g, h1, h2, h3⟩ := h i hi
  exact ⟨g, h1, Nat.lt_of_lt_of_le h2 hb.size, fun j u hu => (hb.cell (p := ⟨g, j, none⟩) h2).trans (h3 j u hu)⟩
theorem OwnS.sl {w : World} {base : Nat} {v : Value} {K : List Txt} (h : OwnS w base v K) : ∃ q cap, v = .slice q K.length cap ∧ Sl w q K ∧ K.length ≤ cap ∧ cap ≤ 9223372036854775807 := by
  obtain ⟨q, cap, hv, hc, hm, hs⟩ := h.src
  exact ⟨q, cap, hv, fun i hi => by obtain ⟨g, h1, _, h3, h4⟩ := hs i hi; exact ⟨g, h1, h3, h4⟩, hc, by unfold maxLen at hm; omega⟩

set_option maxRecDepth 100000 in
set_option maxHeartbeats 1000000 in
theorem texts_any (q q' : Option Addr) (c c' : Nat) (K : List Txt) (w : World) (hn : K.length ≤ 9223372036854775807) (h : Sl w q K) (h' : Sl w q' K) :
    Calls Try.prog 33 #[.slice q K.length c, .slice q' K.length c'] w fun e w' => e = .returned (.bool true) ∧ Below w.heap.size w w' := by
  go_enter Try.func33, Try.ntmps33
  go_wp2
  go_loopw [5] (fun vi wr => ∃ i : Nat, vi = .int .i64 i ∧ i ≤ K.length ∧ Hid (Below w.heap.size w wr)) (fun vi _ => K.length - (intOf vi).toNat)
  case atStart => exact ⟨0, rfl, Nat.zero_le _, Below.refl _ _⟩
  case round =>
    obtain ⟨i, rfl, hi, HH⟩ := hrel
    by_cases hlt : i < K.length
    · obtain ⟨g, rfl, _, hc⟩ := (h.ext HH.out) i hlt
      obtain ⟨g', rfl, _, hc'⟩ := (h'.ext HH.out) i hlt
      obtain ⟨x, hx⟩ : ∃ x, x = K[i] := ⟨_, rfl⟩
      have c0 := hc i x (by rw [hx]; exact List.getElem?_eq_getElem hlt)
      have c1 := hc' i x (by rw [hx]; exact List.getElem?_eq_getElem hlt)
      clear hc hc' hx
      go_wp2_with fail
      go_big_quiet (fail)
      go_wp2
      go_roundw
      case rel => exact ⟨i + 1, by go_num, hlt, ext_trans HH.out (ext_drewN (ext_refl wr) nq)⟩
      case measure => simp [intOf]; omega
    · have hik : i = K.length := by omega
      subst hik
      go_wp2
      go_ret
      exact ⟨rfl, HH.out⟩

theorem rcount_drew (base p : Nat) (L : List Txt) (x : Txt) (w : World) (n : Nat) (hR : RefP w base p L) :
    Calls Try.prog 17 #[.pointer (some ⟨p, 0, none⟩), .string ⟨x.toArray⟩] (w.drewN n) fun e w'' => e = .returned (.int .i64 (L.count x : Int)) ∧ ∃ k, w'' = w.drewN k :=
  Calls.quiet_of_same (rcount_any base p L x (w.drewN n) (hR.ext (ext_drewN (ext_refl w) n)))
theorem bcount_drew (p m N : Nat) (L : List Txt) (x : Txt) (w : World) (n : Nat) (hx : x.length ≤ 9223372036854775807) (hB : BagP w p m N L) :
    Calls Try.prog 16 #[.pointer (some ⟨p, 0, none⟩), .string ⟨x.toArray⟩] (w.drewN n) fun e w'' => e = .returned (.int .i64 (L.count x : Int)) ∧ ∃ k, w'' = w.drewN k :=
  Calls.quiet_of_same (count_any p m N L ⟨x.toArray⟩ (w.drewN n) (by show x.toArray.size ≤ _; simpa using hx) (hB.ext (ext_drewN (ext_refl w) n)))
theorem blen_drew (p m N : Nat) (L : List Txt) (w : World) (n : Nat) (hB : BagP w p m N L) :
    Calls Try.prog 27 #[.pointer (some ⟨p, 0, none⟩)] (w.drewN n) fun e w'' => e = .returned (.int .i64 (L.length : Int)) ∧ ∃ k, w'' = w.drewN k :=
  Calls.quiet_of_same (len_any p m N L (w.drewN n) (hB.ext (ext_drewN (ext_refl w) n)))

set_option maxRecDepth 100000 in
set_option maxHeartbeats 1000000 in
theorem rwithin_any (base base' pa pb : Nat) (A B : List Txt) (w : World) (hA : RefP w base pa A) (hB : RefP w base' pb B) (hne : pb ≠ pa) (hlen : A.length * 16 ≤ 140737488355328) (_ : B.length * 16 ≤ 140737488355328) :
    Calls Try.prog 26 #[.pointer (some ⟨pa, 0, none⟩), .pointer (some ⟨pb, 0, none⟩)] w fun e w' => e = .returned (.bool (within A B)) ∧ Below w.heap.size w w' := by
  go_enter Try.func26, Try.ntmps26
  go_wp2_with fail
  refine (rkinds_any base pa A w hA hlen).mono ?_
  rintro e w1 ⟨v, K, rfl, hK, hO, hb1⟩
  obtain ⟨q, cap, rfl, hS, hcap, hc2⟩ := hO.sl
  have hA1 := hA.ext hb1
  have hB1 := hB.ext hb1
  have E1 := Lib.hid hb1
  have HK := Lib.hid hK
  have hkl : K.length ≤ 9223372036854775807 := by omega
  clear hA hB hb1 hO hK
  go_wp2_with fail
  go_loopw [6] (fun vi wr => ∃ i : Nat, vi = .int .i64 i ∧ i ≤ K.length ∧ Hid (Below w1.heap.size w1 wr) ∧ Hid (∀ j, (hj : j < K.length) → j < i → A.count K[j] ≤ B.count K[j])) (fun vi _ => K.length - (intOf vi).toNat)
  case atStart => exact ⟨0, rfl, Nat.zero_le _, Below.refl _ _, fun j _ hj => absurd hj (Nat.not_lt_zero _)⟩
  case round =>
    obtain ⟨i, rfl, hi, HH, HL⟩ := hrel
    by_cases hlt : i < K.length
    · obtain ⟨g, rfl, _, hc⟩ := (hS.ext HH.out) i hlt
      obtain ⟨x, hx⟩ : ∃ x, x = K[i] := ⟨_, rfl⟩
      have c0 := hc i x (by rw [hx]; exact List.getElem?_eq_getElem hlt)
      have hA2 := hA1.ext HH.out
      have hB2 := hB1.ext HH.out
      have hca : A.count x ≤ A.length := List.count_le_length
      have hcb : B.count x ≤ B.length := List.count_le_length
      have HX := Lib.hid hx
      clear hc hx
      obtain ⟨cnt, h1, h2⟩ : ∃ cnt : Nat → Nat, cnt pa = A.count x ∧ cnt pb = B.count x := ⟨fun r => if r = pa then A.count x else B.count x, by simp, by simp [hne]⟩
      have hcall : ∀ r m, (r = pa ∨ r = pb) → Calls Try.prog 17 #[.pointer (some ⟨r, 0, none⟩), .string ⟨x.toArray⟩] (wr.drewN m) fun e w'' => e = .returned (.int .i64 (cnt r : Int)) ∧ ∃ k, w'' = wr.drewN k := by
        rintro r m (rfl | rfl)
        · rw [h1]; exact rcount_drew base r A x wr m hA2
        · rw [h2]; exact rcount_drew base' r B x wr m hB2
      have HCN := Lib.hid (And.intro h1 h2)
      have hcn1 : cnt pa ≤ A.length := by omega
      have hcn2 : cnt pb ≤ B.length := by omega
      have HCALL := Lib.hid hcall
      clear h1 h2 hA2 hB2 hca hcb hcall
      by_cases hcc : B.count x < A.count x
      · have hz : (cnt pb : Int) < (cnt pa : Int) := by have := HCN.out; omega
        have hw : within A B = false := by
          cases e : within A B
          · rfl
          · have := within_iff.1 e x; omega
        have HW := Lib.hid hw
        clear hw hcc
        go_wp2_with fail
        go_big_quiet ((go_at_call 17; exact HCALL.out _ _ (by first | exact Or.inl rfl | exact Or.inr rfl)))
        go_wp2
        go_ret
        rw [HW.out]
        exact ⟨rfl, ext_trans E1.out (ext_trans HH.out (ext_drewN (ext_refl wr) nq))⟩
      · have hz : ¬ (cnt pb : Int) < (cnt pa : Int) := by have := HCN.out; omega
        have HC := Lib.hid hcc
        clear hcc
        go_wp2_with fail
        go_big_quiet ((go_at_call 17; exact HCALL.out _ _ (by first | exact Or.inl rfl | exact Or.inr rfl)))
        go_wp2
        go_roundw
        case rel =>
          refine ⟨i + 1, by go_num, hlt, ext_trans HH.out (ext_drewN (ext_refl wr) nq), fun j hj hji => ?_⟩
          by_cases e : j = i
          · subst e; rw [← HX.out]; have := HC.out; omega
          · exact HL.out j hj (by omega)
        case measure => simp [intOf]; omega
    · have hik : i = K.length := by omega
      have hw : within A B = true := within_iff.2 fun s => by
        by_cases e : s ∈ A
        · obtain ⟨j, hj, rfl⟩ := List.mem_iff_getElem.1 ((HK.out.mem s).2 e)
          exact HL.out j hj (by omega)
        · rw [List.count_eq_zero.2 e]; omega
      have HW := Lib.hid hw
      clear hw HL
      subst hik
      go_wp2
      go_ret
      rw [HW.out]
      exact ⟨rfl, ext_trans E1.out HH.out⟩

theorem rsame_any (base base' pa pb : Nat) (A B : List Txt) (w : World) (hA : RefP w base pa A) (hB : RefP w base' pb B) (hne : pb ≠ pa) (hlen : A.length * 16 ≤ 140737488355328) (hlB : B.length * 16 ≤ 140737488355328) :
    Calls Try.prog 24 #[.pointer (some ⟨pa, 0, none⟩), .pointer (some ⟨pb, 0, none⟩)] w fun e w' => e = .returned (.bool (same A B)) ∧ Below w.heap.size w w' := by
  rw [same_both]
  go_enter Try.func24, Try.ntmps24
  go_wp2_with fail
  refine (rwithin_any base base' pa pb A B w hA hB hne hlen hlB).mono ?_
  rintro e w1 ⟨rfl, hb1⟩
  go_wp2_with fail
  refine (rwithin_any base' base pb pa B A w1 (hB.ext hb1) (hA.ext hb1) (Ne.symm hne) hlB hlen).mono ?_
  rintro e w2 ⟨rfl, hb2⟩
  cases hw1 : within A B
  · have HW := Lib.hid hw1
    clear hw1
    go_wp2
    go_ret
    rw [HW.out]
    exact ⟨rfl, ext_trans hb1 hb2⟩
  · have HW := Lib.hid hw1
    clear hw1
    cases hw2 : within B A
    · have HW2 := Lib.hid hw2
      clear hw2
      go_wp2
      go_ret
      rw [HW.out, HW2.out]
      exact ⟨rfl, ext_trans hb1 hb2⟩
    · have HW2 := Lib.hid hw2
      clear hw2
      go_wp2
      go_ret
      rw [HW.out, HW2.out]
      exact ⟨rfl, ext_trans hb1 hb2⟩

end Go.Proofs.Ytinonaiolhgklaa
