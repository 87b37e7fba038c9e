/- A row written as bytes. -/
import Derived.Test.YtmhcdmebienlpaaEncT
import Derived.Test.YtmhcdmebienlpaaRowRight
import Derived.Deep.WholeRow
namespace Go.Proofs.Ytmhcdmebienlpaa
open Go.RowKit

/-- The bytes of a value, and of the first n values of a row. -/
def encB (x : Val) : List UInt8 := (encI x).map fun i => i.toNat.toUInt8
def encRow (x : Nat → Val) : Nat → List UInt8
  | 0 => []
  | n + 1 => encRow x n ++ encB (x n)

theorem be8_lt (n : Int) (j : Nat) : 0 ≤ be8 n j ∧ be8 n j < 256 := by unfold be8; omega
theorem encI_byte (x : Val) (hr : x.right = true) : ∀ i ∈ encI x, 0 ≤ i ∧ i < 256 := by
  intro i hi
  obtain ⟨k, n, s⟩ := x
  unfold Val.right at hr
  unfold encI at hi
  dsimp only at hr hi
  by_cases h1 : k = 1
  · subst h1
    simp at hi
    rcases hi with rfl | ⟨j, _, rfl⟩
    · omega
    · exact be8_lt n j
  by_cases h2 : k = 2
  · subst h2
    simp at hi hr
    rcases hi with rfl | rfl
    · omega
    · omega
  by_cases h3 : k = 3
  · subst h3
    simp at hi hr
    rcases hi with rfl | rfl | h
    · omega
    · omega
    · unfold toI at h
      simp at h
      obtain ⟨b, _, rfl⟩ := h
      have := b.toNat_lt
      omega
  · by_cases h0 : k = 0
    · subst h0; simp at hi; subst hi; omega
    · simp [h0, h1, h2, h3] at hr
theorem toI_encB (x : Val) (hr : x.right = true) : toI (encB x) = encI x := by
  unfold toI encB
  rw [List.map_map]
  conv => rhs; rw [← List.map_id (encI x)]
  apply List.map_congr_left
  intro i hi
  have := encI_byte x hr i hi
  simp
  omega
theorem encI_length (x : Val) (hr : x.right = true) : 1 ≤ (encI x).length ∧ (encI x).length ≤ 42 := by
  obtain ⟨k, n, s⟩ := x
  unfold Val.right at hr
  unfold encI
  dsimp only at hr ⊢
  by_cases h1 : k = 1
  · subst h1; simp
  by_cases h2 : k = 2
  · subst h2; simp
  by_cases h3 : k = 3
  · subst h3
    simp at hr
    simp [toI_length]
    have : s.data.size = s.size := rfl
    omega
  · simp [h1, h2, h3]
theorem encB_length (x : Val) (hr : x.right = true) : 1 ≤ (encB x).length ∧ (encB x).length ≤ 42 := by
  unfold encB
  rw [List.length_map]
  exact encI_length x hr
theorem encRow_length (x : Nat → Val) (n : Nat) (hr : allRight n x = true) : n ≤ (encRow x n).length ∧ (encRow x n).length ≤ 42 * n := by
  induction n with
  | zero => simp [encRow]
  | succ n ih =>
    unfold allRight at hr
    simp only [Bool.and_eq_true] at hr
    have := ih hr.1
    have := encB_length (x n) hr.2
    unfold encRow
    rw [List.length_append]
    omega
theorem allRight_one {x : Nat → Val} {n k : Nat} (h : allRight n x = true) (hk : k < n) : (x k).right = true := by
  cases e : (x k).right
  · rw [allRight_no hk e] at h; cases h
  · rfl
theorem allRight_le {x : Nat → Val} {n k : Nat} (h : allRight n x = true) (hk : k ≤ n) : allRight k x = true := by
  induction n with
  | zero => have : k = 0 := by omega
            subst this; rfl
  | succ n ih =>
    by_cases e : k = n + 1
    · subst e; exact h
    · unfold allRight at h
      simp only [Bool.and_eq_true] at h
      exact ih h.1 (by omega)

theorem Try.sliceCell (W : World) (g n : Nat) (hn : n ≤ 42) : (Instr.sliceAt 51 (Value.pointer (some ⟨g, 0, none⟩)) none (some (Value.int .i64 n)) none).run Try.prog W = .ok (.slice (some ⟨g, 0, none⟩) n 42) W := by
  have hA : Try.prog.arrayLen 51 = 42 := by kernel_rfl
  rw [run_sliceAt_array_h W 51 ⟨g, 0, none⟩ Try.underlying51 .i64 n (by omega) (by rw [hA]; omega), hA]
  go_simp

/-- What Encode answers. -/
def encS (len : Nat) (x : Nat → Val) : ByteArray := if 100 < len then ⟨#[]⟩ else if allRight len x then ⟨(encRow x len).toArray⟩ else ⟨#[]⟩
def encE (len : Nat) (x : Nat → Val) : Int := if 100 < len then 5 else if allRight len x then 0 else 1

set_option maxHeartbeats 2000000 in
theorem encode_some (p : Option Addr) (len cap : Nat) (x : Nat → Val) (w : World) (h0 : 0 < len) (hl : len ≤ 100) (hR : RowP w p len x) (hr : allRight len x = true) :
    Calls Try.prog 11 #[.slice p len cap] w fun e w' => e = .returned (.tuple #[.string ⟨(encRow x len).toArray⟩, .int .i64 0]) ∧ Below w.heap.size w w' := by
  go_enter Try.func11, Try.ntmps11
  go_wp2_with (first | (go_at_call 24; go_must (refine (allRight_any p len cap x _ (by omega) hR).mono ?_; rintro e w1 ⟨rfl, hb⟩; rw [hr])))
  have hR1 := hR.ext hb
  go_loopw [19] (fun i wr => ∃ k : Nat, k ≤ len ∧ i = .int .i64 k ∧ IsB w1.heap.size w1.heap.size (toI (encRow x k)) wr ∧ Below w1.heap.size w1 wr ∧ w1.heap.size < wr.heap.size) (fun i _ => len - (intOf i).toNat)
  case atStart => exact ⟨0, Nat.zero_le _, rfl, Lib.fresh_isBuilder _ _ _, by (repeat (first | exact ext_refl _ | assumption | (refine ext_alloc ?_ _) | (refine ext_drewN ?_ _) | refine ext_drew ?_ | (refine ext_set (by first | (simp; done) | (simp; omega)) _ ?_) | (refine ext_trans ?_ (by assumption)))), by simp⟩
  case round =>
    obtain ⟨k, hk, rfl, HB, hE, hz⟩ := hrel
    by_cases hlt : k < len
    · obtain ⟨b, off, rfl, S⟩ := (hR1.ext hE).one hlt
      have q0 := S.c0 k hlt
      have q1 := S.c1 k hlt
      have q2 := S.c2 k hlt
      have hrk := allRight_one hr hlt
      have hn := encI_length (x k) hrk
      have hrow := encRow_length x k (allRight_le hr hk)
      have hb0 := (HB.later (Below.refl _ _)).elim (fun h => h.lt) (fun h => h.lt)
      have hsl := fun (W : World) (g : Nat) => Try.sliceCell W g (encI (x k)).length hn.2
      clear S
      go_wp2_with fail
      refine gen_world (G := fun W => Calls Try.prog _ _ W _) (R := fun W => Arr W (wr.heap.size + 1) (fun _ => 0) ∧ Below wr.heap.size wr W) _ ⟨Arr.new2 _ _ _ rfl, (((Below.refl _ _).alloc (Nat.le_refl _) _).alloc (by simp) _)⟩ ?_
      rintro Z ⟨A, hbZ⟩
      refine (put_any _ (x k) Z A hrk).mono ?_
      rintro e w2 ⟨rfl, ⟨f, A2, HF⟩, hb2⟩
      have hb3 : Below wr.heap.size wr w2 := hbZ.trans (hb2.mono (Nat.le_succ _))
      clear A hbZ hb2
      go_wp2_with fail
      have hlt2 := A2.lt
      refine (write_any w1.heap.size w1.heap.size _ _ (toI (encRow x k)) (encI (x k)) _ (HB.later hb3) ?_ (by omega) (by rw [toI_length]; omega) (by have := hb3.size; omega)).mono ?_
      · intro j y hy
        have hj : j < 42 := by have := (List.getElem?_eq_some_iff.1 hy).1; omega
        rw [A2.cell j hj, HF.out j y hy]
      · rintro e w3 ⟨rfl, HB3, hb4⟩
        go_wp2
        go_roundw
        case rel =>
          refine ⟨k + 1, by omega, by go_num, ?_, (ext_trans hE hb3).trans hb4, ?_⟩
          · rw [encRow, toI_append, toI_encB _ hrk]
            exact HB3
          · have := hb4.size
            omega
        case measure => simp [intOf]; omega
    · have hkl : k = len := by omega
      subst hkl
      have hne : encRow x k ≠ [] := by
        intro e
        have := (encRow_length x k hr).1
        rw [e] at this
        simp at this
        omega
      go_wp2_with (first | (go_at_call 27; go_must (refine (string_some _ _ (encRow x k) _ HB hne).mono ?_; rintro e w2 ⟨rfl, hb2⟩)))
      go_ret2
      exact ⟨rfl, ext_trans hb (hE.trans hb2)⟩

set_option maxHeartbeats 1000000 in
theorem encode_any (p : Option Addr) (len cap : Nat) (x : Nat → Val) (w : World) (hl : len ≤ 9223372036854775807) (hR : RowP w p len x) :
    Calls Try.prog 11 #[.slice p len cap] w fun e w' => e = .returned (.tuple #[.string (encS len x), .int .i64 (encE len x)]) ∧ Below w.heap.size w w' := by
  unfold encS encE
  by_cases h100 : 100 < len
  · rw [if_pos h100, if_pos h100]
    go_enter Try.func11, Try.ntmps11
    go_wp2
    go_ret2
    exact ⟨rfl, ext_refl _⟩
  rw [if_neg h100, if_neg h100]
  cases hr : allRight len x
  · simp only [Bool.false_eq_true, ↓reduceIte]
    go_enter Try.func11, Try.ntmps11
    go_wp2_with (first | (go_at_call 24; go_must (refine (allRight_any p len cap x _ (by omega) hR).mono ?_; rintro e w1 ⟨rfl, hb⟩; rw [hr])))
    go_ret2
    exact ⟨rfl, hb⟩
  simp only [↓reduceIte]
  by_cases h0 : 0 < len
  · exact encode_some p len cap x w h0 (by omega) hR hr
  · have hl0 : len = 0 := by omega
    subst hl0
    go_enter Try.func11, Try.ntmps11
    go_wp2_with (first | (go_at_call 24; go_must (refine (allRight_any p 0 cap x _ (by omega) hR).mono ?_; rintro e w1 ⟨rfl, hb⟩; rw [hr])))
    refine wp_loop_rounds 1 ?_
    rw [rounds_succ]
    go_wp2_with (first | (go_at_call 27; go_must (refine (string_none w1.heap.size w1.heap.size (.pointer none) _ (heap_alloc_new w1 _)).mono ?_; rintro e w2 ⟨rfl, hb2⟩)))
    go_ret2
    exact ⟨rfl, ext_trans hb (Below.trans (by (repeat (first | exact ext_refl _ | assumption | (refine ext_alloc ?_ _) | (refine ext_drewN ?_ _) | refine ext_drew ?_ | (refine ext_set (by first | (simp; done) | (simp; omega)) _ ?_) | (refine ext_trans ?_ (by assumption))))) hb2)⟩

end Go.Proofs.Ytmhcdmebienlpaa
