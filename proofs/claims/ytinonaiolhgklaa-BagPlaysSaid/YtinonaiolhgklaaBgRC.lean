/- The reference's bag: Kinds; the law package's 'texts' and 'same'. -/
import Derived.Test.YtinonaiolhgklaaBgRB
import Derived.Deep.QuietTactic
import Derived.BigQuiet
namespace Go.Proofs.Ytinonaiolhgklaa
open Go.RowKit Go.Maps
open Go.Proofs (encStr)

theorem kinds_add {K L : List Txt} {i : Nat} (hs : L.Pairwise (fun a b => a ≤ b)) (hK : Kinds K (L.take i)) (hi : i < L.length) (hne : ∀ j, i = j + 1 → ∀ h : j < L.length, L[j] ≠ L[i]) : Kinds (K ++ [L[i]]) (L.take (i + 1)) := by
  constructor
  · rw [List.pairwise_append]
    refine ⟨hK.sorted, List.pairwise_singleton _ _, fun a ha b hb => ?_⟩
    simp at hb
    subst hb
    obtain ⟨j, hj, rfl⟩ := List.mem_iff_getElem.1 ((hK.mem a).1 ha)
    rw [List.length_take] at hj
    rw [List.getElem_take]
    have h1 : L[j] ≤ L[i] := List.pairwise_iff_getElem.1 hs j i (by omega) hi (by omega)
    refine ⟨h1, fun e => ?_⟩
    obtain ⟨l, rfl⟩ : ∃ l, i = l + 1 := ⟨i - 1, by omega⟩
    refine hne l rfl (by omega) (List.le_antisymm (List.pairwise_iff_getElem.1 hs l (l + 1) (by omega) hi (by omega)) ?_)
    rw [← e]
    by_cases c : j = l
    · subst c; exact List.le_refl _
    · exact List.pairwise_iff_getElem.1 hs j l (by omega) (by omega) (by omega)
  · intro s
    rw [List.take_add_one, List.getElem?_eq_getElem hi, List.mem_append, List.mem_append, hK.mem]
    rfl
theorem kinds_skip {K L : List Txt} {j : Nat} (hK : Kinds K (L.take (j + 1))) (hi : j + 1 < L.length) (he : L[j] = L[j + 1]) : Kinds K (L.take (j + 1 + 1)) := by
  refine ⟨hK.sorted, fun s => ?_⟩
  rw [hK.mem, List.take_add_one (i := j + 1), List.getElem?_eq_getElem hi, List.mem_append]
  constructor
  · exact .inl
  · rintro (h | h)
    · exact h
    · simp at h
      subst h
      rw [← he]
      exact List.mem_iff_getElem.2 ⟨j, by rw [List.length_take]; omega, by rw [List.getElem_take]⟩

set_option maxRecDepth 100000 in
set_option maxHeartbeats 4000000 in
theorem rkinds_any (base p : Nat) (L : List Txt) (w : World) (hR : RefP w base p L) (hlen : L.length * 16 ≤ 140737488355328) :
    Calls Try.prog 32 #[.pointer (some ⟨p, 0, none⟩)] w fun e w' => ∃ v K, e = .returned v ∧ Kinds K L ∧ OwnS w' w.heap.size v K ∧ Below w.heap.size w w' := by
  obtain ⟨q, cap, c00, _, hcap, hc2, hL⟩ := hR.look
  have hp := hR.lt
  have hLc : L.length ≤ 9223372036854775807 := by omega
  have HC0 := Lib.hid c00
  have HLL := Lib.hid hL
  clear c00 hL
  go_enter Try.func32, Try.ntmps32
  go_wp2
  go_loopw [3, 4] (fun vo vi wr => ∃ (i : Nat) (y : Int) (K : List Txt), vi = .int .i64 y ∧ i ≤ L.length ∧ Hid (y = (i : Int)) ∧ Hid (Kinds K (L.take i) ∧ K.length ≤ i ∧ OwnS wr w.heap.size vo K ∧ Below w.heap.size w wr)) (fun _ vi _ => L.length - (intOf vi).toNat)
  case atStart => exact ⟨0, 0, [], rfl, Nat.zero_le _, rfl, ⟨⟨List.Pairwise.nil, fun s => by simp⟩, Nat.le_refl _, World.ownsRow_nil _ _ _ _, Below.refl _ _⟩⟩
  case round =>
    obtain ⟨i, y, K, rfl, hi, HY, HH⟩ := hrel
    have c0 := (HH.out.2.2.2.cell (p := ⟨p, 0, none⟩) hp).trans HC0.out
    by_cases hlt : i < L.length
    · obtain ⟨g, rfl, _, hg, hc⟩ := HLL.out i hlt
      obtain ⟨x, hx⟩ : ∃ x, x = L[i] := ⟨_, rfl⟩
      have c1 := (HH.out.2.2.2.cell (p := ⟨g, i, none⟩) hg).trans (hc i x (by rw [hx]; exact List.getElem?_eq_getElem hlt))
      have HX := Lib.hid hx
      have HCC := Lib.hid hc
      have hkl := HH.out.2.1
      clear hx hc
      by_cases h0 : 0 < i
      · obtain ⟨j, rfl⟩ : ∃ j, i = j + 1 := ⟨i - 1, by omega⟩
        have hy : y = (j : Int) + 1 := HY.out
        subst hy
        obtain ⟨u, hu⟩ : ∃ u, u = L[j] := ⟨_, rfl⟩
        have c2 := (HH.out.2.2.2.cell (p := ⟨g, j, none⟩) hg).trans (HCC.out j u (by rw [hu]; exact List.getElem?_eq_getElem (by omega)))
        have HU := Lib.hid hu
        clear hu
        cases he : u == x
        · go_wp2_with fail
          have hg0 : (((j : Int) + 1) == 0) = false := by simp; omega
          have hg1 : decide ((j : Int) + 1 = 0) = false := decide_eq_false (by omega)
          have hw0 : IntKind.i64.wrap (j : Int) = (j : Int) := by rw [IntKind.wrap_i64]; omega
          have hn0 : (u != x) = true := by simp only [bne, he, Bool.not_false]
          have HE := Lib.hid he
          go_big_quiet (fail)
          have O1 := Lib.hid (HH.out.2.2.1.later (ext_drewN (ext_refl wr) nq))
          clear hg0 hg1 hw0 hn0 he
          go_wp2_with (at_builtin; go_loud (refine wp_append_strs rfl _ _ rfl w.heap.size _ K rfl (O1.out.later ?c1) _ 1 1 [x] rfl rfl (.inr ⟨_, 0, rfl, ?c2⟩) ?c3 ?c4 ?_))
          case c1 => exact (Below.refl _ _).alloc (Nat.le_refl _) _
          case c2 =>
            intro n u hu
            match n, hu with
            | 0, hu => simp at hu; subst hu; exact Lib.cell_of_heap (heap_alloc_new (wr.drewN nq) _) 0
          case c3 => simp; omega
          case c4 => have := HH.out.2.2.2.size; simp; omega
          intro v' w' O2 b2
          go_wp2
          go_roundw
          case rel =>
            refine ⟨j + 1 + 1, _, K ++ [x], rfl, hlt, by show _ = _; omega, ⟨?_, by rw [List.length_append, List.length_singleton]; omega, O2, HH.out.2.2.2.trans (((ext_drewN (ext_refl wr) nq).mono HH.out.2.2.2.size).trans (((Below.refl _ _).alloc (by simpa using HH.out.2.2.2.size) _).trans b2))⟩⟩
            rw [HX.out]
            refine kinds_add hR.sorted HH.out.1 hlt fun l hl h => ?_
            obtain rfl : l = j := by omega
            rw [← HX.out, ← HU.out]
            intro k
            have := HE.out
            rw [k] at this
            simp at this
          case measure => simp [intOf] <;> omega
        · go_wp2_with fail
          have hg0 : (((j : Int) + 1) == 0) = false := by simp; omega
          have hg1 : decide ((j : Int) + 1 = 0) = false := decide_eq_false (by omega)
          have hw0 : IntKind.i64.wrap (j : Int) = (j : Int) := by rw [IntKind.wrap_i64]; omega
          have hn0 : (u != x) = false := by simp only [bne, he, Bool.not_true]
          have HE := Lib.hid he
          go_big_quiet (fail)
          have O1 := Lib.hid (HH.out.2.2.1.later (ext_drewN (ext_refl wr) nq))
          clear hg0 hg1 hw0 hn0 he
          go_wp2
          go_roundw
          case rel =>
            refine ⟨j + 1 + 1, _, K, rfl, hlt, by show _ = _; omega, ⟨kinds_skip HH.out.1 hlt ?_, by omega, O1.out, HH.out.2.2.2.trans ((ext_drewN (ext_refl wr) nq).mono HH.out.2.2.2.size)⟩⟩
            rw [← HX.out, ← HU.out]
            simpa using HE.out
          case measure => simp [intOf] <;> omega
      · have hi0 : i = 0 := by omega
        subst hi0
        have hy : y = 0 := HY.out
        subst hy
        go_wp2_with fail
        go_big_quiet (fail)
        have O1 := Lib.hid (HH.out.2.2.1.later (ext_drewN (ext_refl wr) nq))
        go_wp2_with (at_builtin; go_loud (refine wp_append_strs rfl _ _ rfl w.heap.size _ K rfl (O1.out.later ?d1) _ 1 1 [x] rfl rfl (.inr ⟨_, 0, rfl, ?d2⟩) ?d3 ?d4 ?_))
        case d1 => exact (Below.refl _ _).alloc (Nat.le_refl _) _
        case d2 =>
          intro n u hu
          match n, hu with
          | 0, hu => simp at hu; subst hu; exact Lib.cell_of_heap (heap_alloc_new (wr.drewN nq) _) 0
        case d3 => simp; omega
        case d4 => have := HH.out.2.2.2.size; simp; omega
        intro v' w' O2 b2
        go_wp2
        go_roundw
        case rel =>
          refine ⟨0 + 1, _, K ++ [x], rfl, hlt, by show _ = _; omega, ⟨?_, by rw [List.length_append, List.length_singleton]; omega, O2, HH.out.2.2.2.trans (((ext_drewN (ext_refl wr) nq).mono HH.out.2.2.2.size).trans (((Below.refl _ _).alloc (by simpa using HH.out.2.2.2.size) _).trans b2))⟩⟩
          rw [HX.out]
          exact kinds_add hR.sorted HH.out.1 hlt fun l hl h => by omega
        case measure => simp [intOf] <;> omega
    · have hiL : i = L.length := by omega
      have hy : y = (L.length : Int) := by have := HY.out; omega
      subst hy
      have hK := HH.out.1
      rw [hiL, List.take_length] at hK
      have HK := Lib.hid hK
      clear hK
      go_wp2
      go_ret
      exact ⟨_, K, rfl, HK.out, HH.out.2.2.1, HH.out.2.2.2⟩

end Go.Proofs.Ytinonaiolhgklaa
