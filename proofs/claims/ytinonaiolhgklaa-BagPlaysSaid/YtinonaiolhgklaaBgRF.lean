/- The reference's Both and Less; the law package's 'same'. -/
import Derived.Test.YtinonaiolhgklaaBgRD
namespace Go.Proofs.Ytinonaiolhgklaa
open Go.RowKit Go.Maps
open Go.Proofs (encStr)

set_option maxRecDepth 100000 in
set_option maxHeartbeats 4000000 in
theorem rboth_any (base base' pa pb : Nat) (A B : List Txt) (w : World) (hA : RefP w base pa A) (hB : RefP w base' pb B) (hlen : (A.length + B.length) * 16 ≤ 140737488355328) :
    Calls Try.prog 20 #[.pointer (some ⟨pa, 0, none⟩), .pointer (some ⟨pb, 0, none⟩)] w fun e w' => ∃ p M, e = .returned (.pointer (some ⟨p, 0, none⟩)) ∧ RefP w' w.heap.size p M ∧ (∀ s, M.count s = A.count s + B.count s) ∧ Below w.heap.size w w' := by
  obtain ⟨q, cap, c0, f0, hcap, hc2, hL⟩ := hA.look
  have hT : TxtP w q A.length (fun i => ⟨(A[i]?.getD []).toArray⟩) := fun k hk => by
    obtain ⟨g, h1, _, h3, h4⟩ := hL k hk
    exact ⟨g, 0, h1, h3, fun i hi => by rw [Nat.zero_add]; exact h4 i _ (by rw [List.getElem?_eq_getElem hi]; rfl)⟩
  have hTL : lst (fun i => (⟨(A[i]?.getD []).toArray⟩ : ByteArray)) A.length = A := by
    apply List.ext_getElem
    · rw [lst_length]
    · intro i h1 h2
      simp [lst, h2]
  have HTL := Lib.hid hTL
  have hbl := hB.lt
  have hcall := rof_any q A.length cap _ w hT (by omega)
  clear hL hT hTL
  go_enter Try.func20, Try.ntmps20
  go_wp2_with fail
  refine hcall.mono ?_
  clear hcall
  rintro e w1 ⟨p, M1, rfl, hM, hp1, hb1⟩
  rw [HTL.out] at hp1
  have hpl := hM.low
  have hnb : pb ≠ p := by omega
  have HS := Lib.hid (And.intro hM (And.intro hp1 (And.intro hb1 (hB.ext hb1))))
  clear hM hp1 hb1 c0 f0
  go_wp2_with fail
  go_loopw [6] (fun vi wr => ∃ (i : Nat) (M : List Txt), vi = .int .i64 i ∧ i ≤ B.length ∧ Hid (RefP wr w.heap.size p M ∧ RefP wr base' pb B ∧ Below w.heap.size w wr ∧ M.length ≤ A.length + i ∧ ∀ s, M.count s = A.count s + (B.take i).count s)) (fun vi _ => B.length - (intOf vi).toNat)
  case atStart => exact ⟨0, M1, rfl, Nat.zero_le _, ⟨HS.out.1, HS.out.2.2.2, HS.out.2.2.1, by have := HS.out.2.1.length_eq; omega, fun s => by rw [kind_perm HS.out.2.1 s]; simp⟩⟩
  case round =>
    obtain ⟨i, M, rfl, hi, HH⟩ := hrel
    obtain ⟨q2, cap2, c2, _, hcap2, hc22, hL2⟩ := HH.out.2.1.look
    by_cases hlt : i < B.length
    · obtain ⟨g, rfl, _, hg, hc⟩ := hL2 i hlt
      obtain ⟨x, hx⟩ : ∃ x, x = B[i] := ⟨_, rfl⟩
      have c3 := hc i x (by rw [hx]; exact List.getElem?_eq_getElem hlt)
      have hml := HH.out.2.2.2.1
      have ht : ∀ s, (B.take (i + 1)).count s = (B.take i).count s + if x = s then 1 else 0 := fun s => by
        rw [List.take_add_one, List.getElem?_eq_getElem hlt, List.count_append, hx]
        simp [List.count_cons]
      have HT := Lib.hid ht
      clear hc hx ht hL2
      go_wp2_with fail
      refine (radd_any w.heap.size p M x wr HH.out.1 (by omega)).mono ?_
      rintro e w2 ⟨rfl, ⟨M', hM', hp'⟩, o2⟩
      have hB2 := HH.out.2.1.keep o2 hnb (fun k hk => by rw [hk]; exact HH.out.1.no_text)
      go_wp2
      go_roundw
      case rel =>
        refine ⟨i + 1, M', by go_num, hlt, ⟨hM', hB2, HH.out.2.2.1.trans (o2.below HH.out.2.2.1.size fun k hk => by rw [hk]; exact hpl), ?_, fun s => ?_⟩⟩
        · have := hp'.length_eq; simp at this; omega
        · rw [kind_perm hp' s, HT.out s]
          have h0 := HH.out.2.2.2.2 s
          rw [List.count_cons, h0]; by_cases e : x = s <;> simp [e] <;> omega
      case measure => simp [intOf]; omega
    · have hik : i = B.length := by omega
      subst hik
      go_wp2
      go_ret
      exact ⟨p, M, rfl, HH.out.1, fun s => by have := HH.out.2.2.2.2 s; rwa [List.take_length] at this, HH.out.2.2.1⟩

set_option maxRecDepth 100000 in
set_option maxHeartbeats 4000000 in
theorem rless_any (base base' pa pb : Nat) (A B : List Txt) (w : World) (hA : RefP w base pa A) (hB : RefP w base' pb B) (hlen : (A.length + B.length) * 16 ≤ 140737488355328) :
    Calls Try.prog 22 #[.pointer (some ⟨pa, 0, none⟩), .pointer (some ⟨pb, 0, none⟩)] w fun e w' => ∃ p M, e = .returned (.pointer (some ⟨p, 0, none⟩)) ∧ RefP w' w.heap.size p M ∧ (∀ s, M.count s = A.count s - B.count s) ∧ Below w.heap.size w w' := by
  obtain ⟨q, cap, c0, f0, hcap, hc2, hL⟩ := hA.look
  have hT : TxtP w q A.length (fun i => ⟨(A[i]?.getD []).toArray⟩) := fun k hk => by
    obtain ⟨g, h1, _, h3, h4⟩ := hL k hk
    exact ⟨g, 0, h1, h3, fun i hi => by rw [Nat.zero_add]; exact h4 i _ (by rw [List.getElem?_eq_getElem hi]; rfl)⟩
  have hTL : lst (fun i => (⟨(A[i]?.getD []).toArray⟩ : ByteArray)) A.length = A := by
    apply List.ext_getElem
    · rw [lst_length]
    · intro i h1 h2
      simp [lst, h2]
  have HTL := Lib.hid hTL
  have hbl := hB.lt
  have hcall := rof_any q A.length cap _ w hT (by omega)
  clear hL hT hTL
  go_enter Try.func22, Try.ntmps22
  go_wp2_with fail
  refine hcall.mono ?_
  clear hcall
  rintro e w1 ⟨p, M1, rfl, hM, hp1, hb1⟩
  rw [HTL.out] at hp1
  have hpl := hM.low
  have hnb : pb ≠ p := by omega
  have HS := Lib.hid (And.intro hM (And.intro hp1 (And.intro hb1 (hB.ext hb1))))
  clear hM hp1 hb1 c0 f0
  go_wp2_with fail
  go_loopw [6] (fun vi wr => ∃ (i : Nat) (M : List Txt), vi = .int .i64 i ∧ i ≤ B.length ∧ Hid (RefP wr w.heap.size p M ∧ RefP wr base' pb B ∧ Below w.heap.size w wr ∧ M.length ≤ A.length ∧ ∀ s, M.count s = A.count s - (B.take i).count s)) (fun vi _ => B.length - (intOf vi).toNat)
  case atStart => exact ⟨0, M1, rfl, Nat.zero_le _, ⟨HS.out.1, HS.out.2.2.2, HS.out.2.2.1, by have := HS.out.2.1.length_eq; omega, fun s => by rw [kind_perm HS.out.2.1 s]; simp⟩⟩
  case round =>
    obtain ⟨i, M, rfl, hi, HH⟩ := hrel
    obtain ⟨q2, cap2, c2, _, hcap2, hc22, hL2⟩ := HH.out.2.1.look
    by_cases hlt : i < B.length
    · obtain ⟨g, rfl, _, hg, hc⟩ := hL2 i hlt
      obtain ⟨x, hx⟩ : ∃ x, x = B[i] := ⟨_, rfl⟩
      have c3 := hc i x (by rw [hx]; exact List.getElem?_eq_getElem hlt)
      have hml := HH.out.2.2.2.1
      have ht : ∀ s, (B.take (i + 1)).count s = (B.take i).count s + if x = s then 1 else 0 := fun s => by
        rw [List.take_add_one, List.getElem?_eq_getElem hlt, List.count_append, hx]
        simp [List.count_cons]
      have HT := Lib.hid ht
      clear hc hx ht hL2
      go_wp2_with fail
      refine (rtake_any w.heap.size p M x wr HH.out.1 (by omega)).mono ?_
      rintro e w2 ⟨rfl, ⟨M', hM', hp'⟩, o2⟩
      have hB2 := HH.out.2.1.keep o2 hnb (fun k hk => by rw [hk]; exact HH.out.1.no_text)
      go_wp2
      go_roundw
      case rel =>
        refine ⟨i + 1, M', by go_num, hlt, ⟨hM', hB2, HH.out.2.2.1.trans (o2.below HH.out.2.2.1.size fun k hk => by rw [hk]; exact hpl), ?_, fun s => ?_⟩⟩
        · have h1 := hp'.length_eq; have h2 := (List.erase_sublist (a := x) (l := M)).length_le; omega
        · rw [kind_perm hp' s, HT.out s]
          have h0 := HH.out.2.2.2.2 s
          rw [List.count_erase, h0]; by_cases e : x = s <;> simp [e] <;> omega
      case measure => simp [intOf]; omega
    · have hik : i = B.length := by omega
      subst hik
      go_wp2
      go_ret
      exact ⟨p, M, rfl, HH.out.1, fun s => by have := HH.out.2.2.2.2 s; rwa [List.take_length] at this, HH.out.2.2.1⟩

set_option maxRecDepth 100000 in
set_option maxHeartbeats 4000000 in
theorem lsame_any (pb mb Nb base px : Nat) (B X : List Txt) (w : World) (hB : BagP w pb mb Nb B) (hX : RefP w base px X) (hc : ∀ s, B.count s = X.count s) (hlen : X.length * 16 ≤ 140737488355328) (hN : Nb ≤ 8796093022208) (hsz : ∀ s ∈ B, s.length ≤ 9223372036854775807) :
    Calls Try.prog 18 #[.pointer (some ⟨pb, 0, none⟩), .pointer (some ⟨px, 0, none⟩)] w fun e w' => e = .returned (.bool true) ∧ Below w.heap.size w w' := by
  have hl : B.length = X.length := by
    have h1 := length_of_counts (A := B) (B := X) (fun s => by rw [hc s]; omega)
    have h2 := length_of_counts (A := X) (B := B) (fun s => by rw [hc s]; omega)
    omega
  obtain ⟨q, cap, c0, _, hcap, hc2, hL⟩ := hX.look
  have HC := Lib.hid hc
  have HL := Lib.hid hl
  clear hc hl hL
  go_enter Try.func18, Try.ntmps18
  go_wp2_with fail
  have hlc : Calls Try.prog 27 #[.pointer (some ⟨pb, 0, none⟩)] w (fun e w' => e = .returned (.int .i64 (X.length : Int)) ∧ w' = w) := by
    have h := len_any pb mb Nb B w hB
    rw [HL.out] at h
    exact h
  have hld : ∀ n, Calls Try.prog 27 #[.pointer (some ⟨pb, 0, none⟩)] (w.drewN n) (fun e w'' => e = .returned (.int .i64 (X.length : Int)) ∧ ∃ k, w'' = w.drewN k) := fun n => by
    have h := blen_drew pb mb Nb B w n hB
    rw [HL.out] at h
    exact h
  clear hlc
  go_big_quiet ((go_at_call 27; exact hld _))
  have b1 := ext_drewN (ext_refl w) nq
  have hB1 := hB.ext b1
  have hX1 := hX.ext b1
  have E1 := Lib.hid b1
  generalize w.drewN nq = w1 at hB1 hX1 E1 ⊢
  clear hB hX b1 hld c0
  go_wp2_with fail
  refine (rkinds_any base px X w1 hX1 hlen).mono ?_
  rintro e w2 ⟨v, K, rfl, hK, hO, hb2⟩
  obtain ⟨qk, ck, rfl, hS, hck, hck2⟩ := hO.sl
  have hB2 := hB1.ext hb2
  have hX2 := hX1.ext hb2
  have E2 := Lib.hid (ext_trans E1.out hb2)
  have HK := Lib.hid hK
  clear hB1 hX1 hO hb2 hK
  go_wp2_with fail
  refine (bagKinds_any pb mb Nb B w2 hB2 hN).mono ?_
  rintro e w3 ⟨v', K', rfl, hK', hO', hb3⟩
  have hKK : K' = K := hK'.uniq HK.out fun s => by rw [← List.count_pos_iff, ← List.count_pos_iff, HC.out s]
  subst hKK
  obtain ⟨qb, cb, rfl, hS', _, _⟩ := hO'.sl
  have hB3 := hB2.ext hb3
  have hX3 := hX2.ext hb3
  have hS3 := hS.ext hb3
  have E3 := Lib.hid (ext_trans E2.out hb3)
  have hkn : K'.length ≤ 9223372036854775807 := by omega
  clear hB2 hX2 hS hO' hb3 hK'
  go_wp2_with fail
  refine (texts_any qb qk _ _ K' w3 hkn hS' hS3).mono ?_
  rintro e w4 ⟨rfl, hb4⟩
  have hB4 := hB3.ext hb4
  have hX4 := hX3.ext hb4
  have hS4 := hS3.ext hb4
  have E4 := Lib.hid (ext_trans E3.out hb4)
  clear hB3 hX3 hS3 hS' hb4
  go_wp2_with fail
  go_loopw [7] (fun vi wr => ∃ i : Nat, vi = .int .i64 i ∧ i ≤ K'.length ∧ Hid (Below w4.heap.size w4 wr)) (fun vi _ => K'.length - (intOf vi).toNat)
  case atStart => exact ⟨0, rfl, Nat.zero_le _, Below.refl _ _⟩
  case round =>
    obtain ⟨i, rfl, hi, HH⟩ := hrel
    by_cases hlt : i < K'.length
    · obtain ⟨g, rfl, _, hc⟩ := (hS4.ext HH.out) i hlt
      obtain ⟨x, hx⟩ : ∃ x, x = K'[i] := ⟨_, rfl⟩
      have c1 := hc i x (by rw [hx]; exact List.getElem?_eq_getElem hlt)
      have hB5 := hB4.ext HH.out
      have hX5 := hX4.ext HH.out
      have hxs : x.length ≤ 9223372036854775807 := hsz x (by
        have h1 : x ∈ X := (HK.out.mem x).1 (by rw [hx]; exact List.getElem_mem hlt)
        rw [← List.count_pos_iff, HC.out x]
        exact List.count_pos_iff.2 h1)
      have hbc : ∀ n, Calls Try.prog 16 #[.pointer (some ⟨pb, 0, none⟩), .string ⟨x.toArray⟩] (wr.drewN n) (fun e w'' => e = .returned (.int .i64 (X.count x : Int)) ∧ ∃ k, w'' = wr.drewN k) := fun n => by
        have h := bcount_drew pb mb Nb B x wr n hxs hB5
        rw [HC.out x] at h
        exact h
      have HBC := Lib.hid hbc
      clear hc hx hbc
      go_wp2_with fail
      go_big_quiet (first | (go_at_call 16; exact HBC.out _) | (go_at_call 17; exact rcount_drew base px X x wr _ hX5))
      go_wp2
      go_roundw
      case rel => exact ⟨i + 1, by go_num, hlt, ext_trans HH.out (ext_drewN (ext_refl wr) nq)⟩
      case measure => simp [intOf]; omega
    · have hik : i = K'.length := by omega
      subst hik
      go_wp2
      go_ret
      exact ⟨rfl, ext_trans E4.out HH.out⟩

end Go.Proofs.Ytinonaiolhgklaa
