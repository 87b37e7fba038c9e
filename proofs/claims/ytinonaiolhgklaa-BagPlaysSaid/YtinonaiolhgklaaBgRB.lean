/- The reference's bag: Take, Of. -/
import Derived.Test.YtinonaiolhgklaaBgRA
namespace Go.Proofs.Ytinonaiolhgklaa
open Go.RowKit Go.Maps
open Go.Proofs (encStr)

theorem cut_sub (L : List Txt) (i : Nat) : (L.take i ++ L.drop (i + 1)).Sublist L := by
  have h := (List.Sublist.refl (L.take i)).append (List.drop_sublist 1 (L.drop i))
  rwa [List.drop_drop, List.take_append_drop] at h
theorem cut_perm {L : List Txt} {i : Nat} {s : Txt} (hi : i < L.length) (h : s = L[i]) : (L.take i ++ L.drop (i + 1)).Perm (L.erase s) := by
  have e : L = L.take i ++ s :: L.drop (i + 1) := by rw [h, ← List.drop_eq_getElem_cons hi, List.take_append_drop]
  have h1 : L.Perm (s :: (L.take i ++ L.drop (i + 1))) := by
    have := List.perm_middle (a := s) (l₁ := L.take i) (l₂ := L.drop (i + 1))
    rwa [← e] at this
  have h2 := h1.erase s
  rw [List.erase_cons_head] at h2
  exact h2.symm

set_option maxRecDepth 100000 in
set_option maxHeartbeats 4000000 in
theorem rtake_any (base p : Nat) (L : List Txt) (s : Txt) (w : World) (hR : RefP w base p L) (hlen : L.length * 16 ≤ 140737488355328) :
    Calls Try.prog 13 #[.pointer (some ⟨p, 0, none⟩), .string ⟨s.toArray⟩] w fun e w' => e = .returned (.bool (decide (s ∈ L))) ∧ (∃ M, RefP w' base p M ∧ M.Perm (L.erase s)) ∧ Out (fun k => k = p) w w' := by
  obtain ⟨q, cap, c0, f0, hcap, hc2, hL⟩ := hR.look
  have hp := hR.lt
  obtain ⟨vv, hbb, _⟩ := hR.blk
  have HB := Lib.hid hbb
  have hLc : L.length ≤ 9223372036854775807 := by omega
  clear hbb
  go_enter Try.func13, Try.ntmps13
  go_wp2
  go_loopw [5] (fun vi wr => ∃ i : Nat, vi = .int .i64 i ∧ i ≤ L.length ∧ Hid (∀ j, j < i → (hj : j < L.length) → L[j] ≠ s) ∧ w = wr) (fun vi _ => L.length - (intOf vi).toNat)
  case atStart => exact ⟨0, rfl, Nat.zero_le _, fun j hj => absurd hj (Nat.not_lt_zero _), rfl⟩
  case round =>
    obtain ⟨i, rfl, hi, HK, rfl⟩ := hrel
    by_cases hlt : i < L.length
    · obtain ⟨g, rfl, _, hg, hc⟩ := hL i hlt
      have c1 := hc i L[i] (List.getElem?_eq_getElem hlt)
      obtain ⟨x, hx⟩ : ∃ x, x = L[i] := ⟨_, rfl⟩
      rw [← hx] at c1
      have HX := Lib.hid hx
      have HC := Lib.hid hc
      clear hc hx
      by_cases hxs : x = s
      · subst hxs
        have HM := Lib.hid (show x ∈ L by rw [HX.out]; exact List.getElem_mem hlt)
        have hic : ¬ cap ≤ i := by omega
        have hc0 : ¬ cap = 0 := by omega
        have HDL := Lib.hid (show L.length - (i + 1) = (L.drop (i + 1)).length by rw [List.length_drop])
        by_cases hcz : cap = i + 1
        · subst hcz
          have HD0 := Lib.hid (show 0 = (L.drop (i + 1)).length by rw [List.length_drop]; omega)
          go_wp2_with (at_builtin; refine wp_append_strs rfl _ _ rfl w.heap.size _ [] rfl (World.ownsRow_nil _ _ _ _) _ _ _ (L.take i) (by rw [List.length_take]; omega) rfl (.inr ⟨g, 0, rfl, ?a1⟩) ?a3 (Nat.le_refl _) ?_)
          case a1 =>
            intro n u hu
            rw [Nat.zero_add]
            rw [List.getElem?_take] at hu
            split at hu
            · exact HC.out n u hu
            · cases hu
          case a3 => simp; omega
          intro v1 w1 O1 b1
          have O1 : OwnS w1 w.heap.size v1 (L.take i) := O1
          have B1 := Lib.hid b1
          have c3 := (b1.cell (p := ⟨p, 0, none⟩) hp).trans c0
          have f3 := (b1.frozen (p := ⟨p, 0, none⟩) hp).trans (f0 0)
          clear b1
          go_wp2_with (at_builtin; go_loud (refine wp_append_strs rfl _ _ rfl w.heap.size _ _ rfl O1 _ _ _ (L.drop (i + 1)) HD0.out rfl (.inl ?b1) ?b3 B1.out.size ?_))
          case b1 => exact List.length_eq_zero_iff.1 HD0.out.symm
          case b3 => simp; omega
          intro v4 w4 O4 b4
          have c4 := (b4.cell (p := ⟨p, 0, none⟩) hp).trans c3
          have f4 := (b4.frozen (p := ⟨p, 0, none⟩) hp).trans f3
          have B4 := Lib.hid (B1.out.trans b4)
          obtain ⟨q4, n4, cap4, hv4⟩ : ∃ q4 n4 cap4, v4 = Value.slice q4 n4 cap4 := by obtain ⟨a, b, h, _⟩ := O4.src; exact ⟨a, _, b, h⟩
          subst hv4
          have HO4 := Lib.hid O4
          clear O4 b4 c3 f3
          go_wp2
          go_ret
          refine ⟨by simp [HM.out], ⟨_, RefP.stored HB.out B4.out HO4.out hR.low (hR.sorted.sublist (cut_sub L i)), cut_perm hlt HX.out⟩, (Out.of B4.out).trans (Out.set ⟨p, 0, none⟩ _ rfl)⟩
        · have hc4 : ¬ cap ≤ i + 1 := by omega
          have hc5 : ¬ cap - (i + 1) = 0 := by omega
          go_wp2_with (at_builtin; refine wp_append_strs rfl _ _ rfl w.heap.size _ [] rfl (World.ownsRow_nil _ _ _ _) _ _ _ (L.take i) (by rw [List.length_take]; omega) rfl (.inr ⟨g, 0, rfl, ?d1⟩) ?d3 (Nat.le_refl _) ?_)
          case d1 =>
            intro n u hu
            rw [Nat.zero_add]
            rw [List.getElem?_take] at hu
            split at hu
            · exact HC.out n u hu
            · cases hu
          case d3 => simp; omega
          intro v1 w1 O1 b1
          have O1 : OwnS w1 w.heap.size v1 (L.take i) := O1
          have B1 := Lib.hid b1
          have c3 := (b1.cell (p := ⟨p, 0, none⟩) hp).trans c0
          have f3 := (b1.frozen (p := ⟨p, 0, none⟩) hp).trans (f0 0)
          clear b1
          go_wp2_with (at_builtin; go_loud (refine wp_append_strs rfl _ _ rfl w.heap.size _ _ rfl O1 _ _ _ (L.drop (i + 1)) HDL.out rfl (.inr ⟨g, i + 1, rfl, ?e1⟩) ?e3 B1.out.size ?_))
          case e1 =>
            intro n u hu
            rw [List.getElem?_drop] at hu
            exact (B1.out.cell (p := ⟨g, _, none⟩) hg).trans (HC.out (i + 1 + n) u hu)
          case e3 => simp; omega
          intro v4 w4 O4 b4
          have c4 := (b4.cell (p := ⟨p, 0, none⟩) hp).trans c3
          have f4 := (b4.frozen (p := ⟨p, 0, none⟩) hp).trans f3
          have B4 := Lib.hid (B1.out.trans b4)
          obtain ⟨q4, n4, cap4, hv4⟩ : ∃ q4 n4 cap4, v4 = Value.slice q4 n4 cap4 := by obtain ⟨a, b, h, _⟩ := O4.src; exact ⟨a, _, b, h⟩
          subst hv4
          have HO4 := Lib.hid O4
          clear O4 b4 c3 f3
          go_wp2
          go_ret
          refine ⟨by simp [HM.out], ⟨_, RefP.stored HB.out B4.out HO4.out hR.low (hR.sorted.sublist (cut_sub L i)), cut_perm hlt HX.out⟩, (Out.of B4.out).trans (Out.set ⟨p, 0, none⟩ _ rfl)⟩
      · have HNE := Lib.hid hxs
        have hbe : (x == s) = false := by simpa using hxs
        clear hxs
        go_wp2
        go_roundw
        case rel =>
          refine ⟨i + 1, by go_num, hlt, fun j hj hjl => ?_, by simp⟩
          by_cases e : j = i
          · subst e; rw [← HX.out]; exact HNE.out
          · exact HK.out j (by omega) hjl
        case measure => simp [intOf]; omega
    · have hnot : s ∉ L := fun h => by
        obtain ⟨j, hj, e⟩ := List.mem_iff_getElem.1 h
        exact HK.out j (by omega) hj e
      have HNT := Lib.hid hnot
      clear hnot
      go_wp2
      go_ret
      refine ⟨by simp [HNT.out], ⟨L, hR, ?_⟩, Out.refl _ _⟩
      rw [List.erase_of_not_mem HNT.out]

set_option maxRecDepth 100000 in
set_option maxHeartbeats 4000000 in
theorem rof_any (q : Option Addr) (n cap : Nat) (T : Nat → ByteArray) (w : World) (hT : TxtP w q n T) (hn : n * 16 ≤ 140737488355328) :
    Calls Try.prog 11 #[.slice q n cap] w fun e w' => ∃ p M, e = .returned (.pointer (some ⟨p, 0, none⟩)) ∧ RefP w' w.heap.size p M ∧ M.Perm (lst T n) ∧ Below w.heap.size w w' := by
  go_enter Try.func11, Try.ntmps11
  go_wp2_with fail
  have st : RefP (w.alloc (.cells #[.slice none 0 0] 45)) w.heap.size w.heap.size [] := ⟨⟨_, heap_alloc_new w _, World.ownsRow_nil _ _ _ _⟩, List.Pairwise.nil, Nat.le_refl _⟩
  have HS := Lib.hid (And.intro st (show Below w.heap.size w (w.alloc (.cells #[.slice none 0 0] 45)) from (Below.refl _ _).alloc (Nat.le_refl _) _))
  clear st
  go_loopw [4] (fun vi wr => ∃ (k : Nat) (M : List Txt), vi = .int .i64 k ∧ k ≤ n ∧ Hid (RefP wr w.heap.size w.heap.size M ∧ M.Perm (lst T k) ∧ Below w.heap.size w wr)) (fun vi _ => n - (intOf vi).toNat)
  case atStart => exact ⟨0, [], rfl, Nat.zero_le _, ⟨HS.out.1, List.Perm.refl _, HS.out.2⟩⟩
  case round =>
    obtain ⟨k, M, rfl, hk, HH⟩ := hrel
    by_cases hlt : k < n
    · obtain ⟨b, off, rfl, hb, hc⟩ := hT k hlt
      have c0 := (HH.out.2.2.cell (p := ⟨b, _, none⟩) hb).trans (hc k hlt)
      clear hc
      have hml : M.length = k := by rw [HH.out.2.1.length_eq, lst_length]
      go_wp2_with fail
      have hcall := radd_any w.heap.size w.heap.size M (T k).data.toList wr HH.out.1 (by omega)
      have e : (⟨(T k).data.toList.toArray⟩ : ByteArray) = T k := by simp
      rw [e] at hcall
      refine hcall.mono ?_
      rintro e' w2 ⟨rfl, ⟨M', h1, h2⟩, h3⟩
      go_wp2
      go_roundw
      case rel =>
        refine ⟨k + 1, M', by go_num, hlt, ⟨h1, ?_, HH.out.2.2.trans (h3.below HH.out.2.2.size fun j hj => by rw [hj]; exact Nat.le_refl _)⟩⟩
        rw [lst_succ]
        exact h2.trans ((List.Perm.cons _ HH.out.2.1).trans (List.perm_append_singleton _ _).symm)
      case measure => simp [intOf]; omega
    · have hkn : k = n := by omega
      subst hkn
      go_wp2
      go_ret
      exact ⟨_, M, rfl, HH.out.1, HH.out.2.1, HH.out.2.2⟩

end Go.Proofs.Ytinonaiolhgklaa
