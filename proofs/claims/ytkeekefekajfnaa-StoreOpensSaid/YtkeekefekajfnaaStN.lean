/- Names: what is one; the reference's words and its Name. -/
import Derived.Test.YtkeekefekajfnaaStD
import Derived.BigQuiet
namespace Go.Proofs.Ytkeekefekajfnaa
open Go.RowKit

/-- The words of a query. -/
def wordsL : List ByteArray := [⟨#[115, 101, 108, 101, 99, 116]⟩, ⟨#[100, 105, 115, 116, 105, 110, 99, 116]⟩, ⟨#[102, 114, 111, 109]⟩, ⟨#[106, 111, 105, 110]⟩, ⟨#[108, 101, 102, 116]⟩, ⟨#[115, 101, 109, 105]⟩, ⟨#[111, 110]⟩, ⟨#[119, 104, 101, 114, 101]⟩, ⟨#[103, 114, 111, 117, 112]⟩, ⟨#[98, 121]⟩, ⟨#[117, 110, 105, 111, 110]⟩, ⟨#[97, 108, 108]⟩, ⟨#[111, 114, 100, 101, 114]⟩, ⟨#[100, 101, 115, 99]⟩, ⟨#[97, 110, 100]⟩, ⟨#[111, 114]⟩, ⟨#[110, 111, 116]⟩, ⟨#[105, 115]⟩, ⟨#[110, 117, 108, 108]⟩, ⟨#[116, 114, 117, 101]⟩, ⟨#[102, 97, 108, 115, 101]⟩, ⟨#[99, 111, 117, 110, 116]⟩, ⟨#[115, 117, 109]⟩, ⟨#[109, 105, 110]⟩, ⟨#[109, 97, 120]⟩]
/-- A byte of a name. -/
def okB (b : Int) : Prop := (97 ≤ b ∧ b ≤ 122) ∨ (48 ≤ b ∧ b ≤ 57) ∨ b = 95
/-- The byte at place i, as a number. -/
def byt (s : ByteArray) (i : Nat) : Int := ((s.data[i]?.getD 0).toNat : Int)
theorem byt_lt (s : ByteArray) (i : Nat) : 0 ≤ byt s i ∧ byt s i < 256 := by
  unfold byt
  have := (s.data[i]?.getD 0).toNat_lt
  omega
/-- What is a name. -/
def NameP (s : ByteArray) : Prop := (1 ≤ s.size ∧ s.size ≤ 20) ∧ (97 ≤ byt s 0 ∧ byt s 0 ≤ 122) ∧ (∀ i, i < s.size → okB (byt s i)) ∧ ∀ x ∈ wordsL, x.toList ≠ s.toList

set_option maxRecDepth 100000 in
set_option maxHeartbeats 1000000 in
theorem rwords_any (w : World) : Calls Try.prog 26 #[] w fun e w' => ∃ g, e = .returned (.slice (some ⟨g, 0, none⟩) 25 25) ∧ StrsA w' w.heap.size w'.heap.size (some ⟨g, 0, none⟩) wordsL ∧ Below w.heap.size w w' := by
  go_enter Try.func26, Try.ntmps26
  go_wp2
  go_ret
  refine ⟨_, rfl, fun i _ => ⟨w.heap.size, 0, rfl, Nat.le_refl _, by simp, fun j x hx => ?_⟩, (Below.refl _ _).alloc (Nat.le_refl _) _⟩
  unfold strC
  rw [Lib.cell_of_heap (heap_alloc_new w _)]
  have hj : j < 25 := (List.getElem?_eq_some_iff.1 hx).1
  rw [Nat.zero_add, Nat.mul_one]
  have key : (wordsL.map Value.string).toArray[j]? = some (.string x) := by rw [List.getElem?_toArray, List.getElem?_map, hx]; rfl
  exact key

theorem byt_at (s : ByteArray) (i : Nat) (h : i < s.size) : ((s[i]'h).toNat : Int) = byt s i := by
  have h' : i < s.data.size := h
  unfold byt
  rw [Array.getElem?_eq_getElem h']
  rfl

set_option maxRecDepth 100000 in
set_option maxHeartbeats 2000000 in
theorem rname_any (s : ByteArray) (w : World) (hs : s.size ≤ 9223372036854775807) : Calls Try.prog 10 #[.string s] w fun e w' => Tells (NameP s) e ∧ Below w.heap.size w w' := by
  by_cases h1 : 1 ≤ s.size
  · by_cases h2 : s.size ≤ 20
    · have h0 : 0 < s.size := h1
      have e0 := byt_at s 0 h0
      by_cases a1 : 97 ≤ byt s 0
      · by_cases a2 : byt s 0 ≤ 122
        · have A := Lib.hid (And.intro a1 a2)
          go_enter Try.func10, Try.ntmps10
          go_wp2
          go_loopw [3] (fun vi wr => ∃ i : Nat, vi = .int .i64 i ∧ i ≤ s.size ∧ Hid (∀ j, j < i → okB (byt s j)) ∧ w = wr) (fun vi _ => s.size - (intOf vi).toNat)
          case atStart => exact ⟨0, rfl, Nat.zero_le _, fun j hj => absurd hj (Nat.not_lt_zero _), rfl⟩
          case round =>
            obtain ⟨i, rfl, hi, HJ, rfl⟩ := hrel
            clear e0 a1 a2
            by_cases hlt : i < s.size
            · have ei := byt_at s i hlt
              obtain ⟨b, hb⟩ : ∃ b, b = byt s i := ⟨_, rfl⟩
              rw [← hb] at ei
              have HB := Lib.hid hb
              clear hb
              have next : okB b → Hid (∀ j, j < i + 1 → okB (byt s j)) := fun h j hj => by
                by_cases e : j = i
                · rw [e, ← HB.out]; exact h
                · exact HJ.out j (by omega)
              have NX := Lib.hid next
              clear next
              by_cases e95 : b = 95
              · have hq : (b != 95) = false := by simpa using e95
                have hok := NX.out (.inr (.inr e95))
                clear e95
                go_wp2
                all_goals go_roundw
                all_goals first | exact ⟨i + 1, by go_num, hlt, hok, by trivial⟩ | (simp [intOf] <;> omega)
              · have hq : (b != 95) = true := by simpa using e95
                have E95 := Lib.hid e95
                go_wp2
                all_goals first
                  | (go_ret; exact ⟨Tells.no (fun h => by have hk := h.2.2.1 i hlt; have e95 := E95.out; rw [← HB.out] at hk; unfold okB at hk; omega), (Below.refl _ _)⟩)
                  | go_roundw
                all_goals first | exact ⟨i + 1, by go_num, hlt, NX.out (by unfold okB; omega), by trivial⟩ | (simp [intOf] <;> omega)
            · have hik : i = s.size := by omega
              subst hik
              go_wp2_with fail
              refine (rwords_any w).mono ?_
              rintro e w1 ⟨g, rfl, hW, hb1⟩
              have W1 := Lib.hid hW
              have B1 := Lib.hid hb1
              clear hW hb1
              go_wp2_with fail
              go_loopw [6] (fun vi wx => ∃ i : Nat, vi = .int .i64 i ∧ i ≤ 25 ∧ Hid (∀ x ∈ wordsL.take i, x.toList ≠ s.toList) ∧ w1 = wx) (fun vi _ => 25 - (intOf vi).toNat)
              case atStart => exact ⟨0, rfl, Nat.zero_le _, fun x hx => by simp at hx, rfl⟩
              case round =>
                obtain ⟨i, rfl, hi2, HJ2, rfl⟩ := hrel
                by_cases hl2 : i < 25
                · obtain ⟨g', off, hg, _, _, hc⟩ := W1.out.at_ (show i < wordsL.length from hl2)
                  obtain ⟨rfl, rfl⟩ : g = g' ∧ 0 = off := by simpa using hg
                  obtain ⟨x, hx⟩ : ∃ x, x = wordsL[i]'(show i < wordsL.length from hl2) := ⟨_, rfl⟩
                  rw [← hx] at hc
                  have c0 : w1.cell? ⟨g, i, none⟩ = some (.string x) := by unfold strC at hc; rwa [Nat.zero_add, Nat.mul_one] at hc
                  have HX := Lib.hid hx
                  clear hc hx
                  by_cases e : x.toList = s.toList
                  · have eb : (x.toList == s.toList) = true := by simpa using e
                    have E := Lib.hid e
                    clear e
                    go_wp2
                    go_ret
                    exact ⟨Tells.no (fun h => h.2.2.2 x (by rw [HX.out]; exact List.getElem_mem _) E.out), B1.out⟩
                  · have eb : (x.toList == s.toList) = false := by simpa using e
                    have E := Lib.hid e
                    clear e
                    go_wp2
                    go_roundw
                    case rel =>
                      refine ⟨i + 1, by go_num, hl2, fun y hy => ?_, by trivial⟩
                      rw [List.take_add_one, List.getElem?_eq_getElem (show i < wordsL.length from hl2), ← HX.out] at hy
                      rcases List.mem_append.1 hy with h | h
                      · exact HJ2.out y h
                      · simp at h; rw [h]; exact E.out
                    case measure => simp [intOf] <;> omega
                · have : i = 25 := by omega
                  subst this
                  go_wp2
                  go_ret
                  exact ⟨Tells.yes ⟨⟨h1, h2⟩, A.out, HJ.out, HJ2.out⟩, B1.out⟩
        · go_enter Try.func10, Try.ntmps10
          go_wp2
          go_ret
          exact ⟨Tells.no (fun h => by have hk := h.2.1.2; omega), (Below.refl _ _)⟩
      · go_enter Try.func10, Try.ntmps10
        go_wp2
        go_ret
        exact ⟨Tells.no (fun h => by have hk := h.2.1.1; omega), (Below.refl _ _)⟩
    · go_enter Try.func10, Try.ntmps10
      go_wp2
      go_ret
      exact ⟨Tells.no (fun h => by have hk := h.1.2; omega), (Below.refl _ _)⟩
  · go_enter Try.func10, Try.ntmps10
    go_wp2
    go_ret
    exact ⟨Tells.no (fun h => by have hk := h.1.1; omega), (Below.refl _ _)⟩

end Go.Proofs.Ytkeekefekajfnaa
