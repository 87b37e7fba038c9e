/- One value written as bytes, into an array that lies where it lies. -/
import Derived.Test.YtmhcdmebienlpaaValA
import Derived.Test.YtmhcdmebienlpaaBox
import Derived.Test.YtmhcdmebienlpaaBuild
import Derived.Deep.Cut
import Derived.Laws.ResultCell
import Derived.Laws.Tables
import Derived.Laws.Rows
import Derived.Lib.BufferWrite
namespace Go.Proofs.Ytmhcdmebienlpaa
open Go.RowKit

/-- Block g is an array of 42 bytes, f j at place j. -/
def Arr (W : World) (g : Nat) (f : Nat → Int) : Prop := ∃ cur : Array Value, W.heap[g]? = some (.cells cur 51 (0, 0)) ∧ cur.size = 42 ∧ ∀ j, j < 42 → cur[j]? = some (.int .u8 (f j))

theorem Arr.cell {W : World} {g : Nat} {f : Nat → Int} (h : Arr W g f) (j : Nat) (hj : j < 42) : W.cell? ⟨g, j, none⟩ = some (.int .u8 (f j)) := by
  obtain ⟨cur, h1, h2, h3⟩ := h
  rw [Lib.cell_of_heap h1, h3 j hj]
theorem Arr.frozen {W : World} {g : Nat} {f : Nat → Int} (h : Arr W g f) (j : Nat) : W.frozen? ⟨g, j, none⟩ = false := by
  obtain ⟨cur, h1, h2, h3⟩ := h
  exact Lib.frozen_of_heap h1 j
theorem Arr.lt {W : World} {g : Nat} {f : Nat → Int} (h : Arr W g f) : g < W.heap.size := by
  obtain ⟨cur, h1, h2, h3⟩ := h
  rcases Nat.lt_or_ge g W.heap.size with h | h
  · exact h
  · rw [Array.getElem?_eq_none h] at h1; cases h1
theorem Arr.set {W : World} {g : Nat} {f : Nat → Int} (h : Arr W g f) (j : Nat) (v : Int) : Arr (W.setCell ⟨g, j, none⟩ (.int .u8 v)) g (fun i => if i = j then v else f i) := by
  obtain ⟨cur, h1, h2, h3⟩ := h
  refine ⟨cur.setIfInBounds j (.int .u8 v), ?_, by simp [h2], ?_⟩
  · rw [setCell_eq_setRow W g j cur _ _ _ h1]
    exact setRow_heap W g cur _ _ _ h1
  · intro i hi
    rw [Array.getElem?_setIfInBounds]
    by_cases e : j = i
    · subst e; simp [h2, hi]
    · simp [e, show ¬ i = j from fun k => e k.symm, h3 i hi]
theorem Arr.ext {W W' : World} {g : Nat} {f : Nat → Int} (h : Arr W g f) (hb : Below W.heap.size W W') : Arr W' g f := by
  have hlt := h.lt
  obtain ⟨cur, h1, h2⟩ := h
  exact ⟨cur, by rw [hb.block g hlt]; exact h1, h2⟩

theorem gen_world {R G : World → Prop} (W : World) (h : R W) (k : ∀ W, R W → G W) : G W := k W h

theorem Arr.new (W : World) (z : Array Value) (hz : z = Array.replicate 42 (.int .u8 0)) : Arr (W.alloc (.cells z 51)) W.heap.size (fun _ => 0) := by
  subst hz
  exact ⟨_, heap_alloc_new W _, by simp, fun j hj => by simp [hj]⟩

theorem Arr.new2 (W : World) (o : Obj) (z : Array Value) (hz : z = Array.replicate 42 (.int .u8 0)) : Arr ((W.alloc o).alloc (.cells z 51)) (W.heap.size + 1) (fun _ => 0) := by
  have := Arr.new (W.alloc o) z hz
  rwa [World.size_alloc] at this

/-- The bytes of the number of an Int, the greatest first. -/
def be8 (n : Int) (j : Nat) : Int := IntKind.u64.wrap n / 2 ^ (8 * (7 - j)) % 256
/-- The bytes of a value. -/
def encI (x : Val) : List Int :=
  if x.k = 1 then x.k :: (List.range 8).map (be8 x.n) else if x.k = 2 then [x.k, x.n] else if x.k = 3 then x.k :: (x.s.size : Int) :: toI x.s.data.toList else [x.k]

theorem Arr.alloc {W : World} {g : Nat} {f : Nat → Int} (h : Arr W g f) (o : Obj) : Arr (W.alloc o) g f := h.ext ((Below.refl _ _).alloc (Nat.le_refl _) _)
theorem Arr.far {W : World} {g : Nat} {f : Nat → Int} (h : Arr W g f) {k : Nat} (hk : k ≠ g) (j : Nat) (v : Value) : Arr (W.setCell ⟨k, j, none⟩ v) g f := by
  obtain ⟨cur, h1, h2⟩ := h
  refine ⟨cur, ?_, h2⟩
  rw [Below.heap_setCell _ _ _ _ (fun e => hk e.symm)]
  exact h1

/-- What a call has done that writes a value into the empty array of block b: the value's bytes stand at its head, and it tells how many. -/
def IsPut (b : Nat) (x : Val) (w : World) (e : Ending) (w' : World) : Prop :=
  e = .returned (.int .i64 (encI x).length) ∧ (∃ f, Arr w' b f ∧ Hid (∀ (j : Nat) (y : Int), (encI x)[j]? = some y → f j = y)) ∧ Below b w w'

theorem Arr.drew {W : World} {g : Nat} {f : Nat → Int} (h : Arr W g f) : Arr W.drew g f := h.ext (Below.refl _ _).drew

/-- Where a call stands that writes the value x into the array of block b: the value lies in a box of its own, the array holds f. -/
structure PutW (b : Nat) (x : Val) (w W : World) (f : Nat → Int) : Prop where
  box : Box W w.heap.size x
  arr : Arr W b f
  below : Below b w W
theorem PutW.start {b : Nat} {w : World} {k n : Int} {s : ByteArray} (A : Arr w b (fun _ => 0)) : PutW b ⟨k, n, s⟩ w (w.alloc (.cells #[.int .i64 k, .int .i64 n, .string s] 36)) (fun _ => 0) :=
  ⟨Box.new _ _ _ _ _, A.alloc _, (Below.refl _ _).alloc (Nat.le_of_lt A.lt) _⟩
theorem PutW.drew {b : Nat} {x : Val} {w W : World} {f : Nat → Int} (h : PutW b x w W f) : PutW b x w W.drew f := ⟨h.box.ext (Below.refl _ _).drew, h.arr.drew, h.below.drew⟩
theorem PutW.set {b : Nat} {x : Val} {w W : World} {f : Nat → Int} (h : PutW b x w W f) (hb : b < w.heap.size) (j : Nat) (v : Int) : PutW b x w (W.setCell ⟨b, j, none⟩ (.int .u8 v)).drew (fun i => if i = j then v else f i) :=
  ⟨(h.box.far (by omega) _ _).ext (Below.refl _ _).drew, (h.arr.set j v).drew, (h.below.setCell (p := ⟨b, _, none⟩) (Nat.le_refl _) _).drew⟩

theorem put_null (b : Nat) (n : Int) (s : ByteArray) (w : World) (A : Arr w b (fun _ => 0)) :
    Calls Try.prog 25 #[.pointer (some ⟨b, 0, none⟩), .agg #[.int .i64 0, .int .i64 n, .string s]] w fun e w' => IsPut b ⟨0, n, s⟩ w e w' := by
  have hlt := A.lt
  go_enter Try.func25, Try.ntmps25
  go_wp2
  refine gen_world (G := fun W => Code.wp _ _ _ _ W) (R := fun W => PutW b ⟨0, n, s⟩ w W (fun _ => 0)) _ (PutW.start A) ?_
  intro W0 P0
  have b0 := P0.box.c0
  have a0 := P0.arr.cell 0 (by omega)
  have fa := P0.arr.frozen
  go_region
  have P := P0.set hlt 0 0
  generalize (W0.setCell ⟨b, 0, none⟩ (.int .u8 0)).drew = W1 at P ⊢
  clear b0 a0 fa P0
  have b0 := P.box.c0
  go_wp2
  go_ret
  refine ⟨rfl, ⟨_, P.arr, ?_⟩, P.below⟩
  show ∀ (j : Nat) (y : Int), _
  intro j y hy
  match j, hy with
  | 0, hy => simp [encI] at hy; subst hy; rfl

theorem put_bool (b : Nat) (n : Int) (s : ByteArray) (w : World) (A : Arr w b (fun _ => 0)) (hn : n = 0 ∨ n = 1) :
    Calls Try.prog 25 #[.pointer (some ⟨b, 0, none⟩), .agg #[.int .i64 2, .int .i64 n, .string s]] w fun e w' => IsPut b ⟨2, n, s⟩ w e w' := by
  have hlt := A.lt
  have hw : IntKind.u8.wrap n = n := by rcases hn with rfl | rfl <;> rfl
  go_enter Try.func25, Try.ntmps25
  go_wp2
  refine gen_world (G := fun W => Code.wp _ _ _ _ W) (R := fun W => PutW b ⟨2, n, s⟩ w W (fun _ => 0)) _ (PutW.start A) ?_
  intro W0 P0
  have b0 := P0.box.c0
  have a0 := P0.arr.cell 0 (by omega)
  have fa := P0.arr.frozen
  go_region
  have P := P0.set hlt 0 2
  generalize (W0.setCell ⟨b, 0, none⟩ (.int .u8 2)).drew = W1 at P ⊢
  clear b0 a0 fa P0
  have b0 := P.box.c0
  have b1 := P.box.c1
  have a1 := P.arr.cell 1 (by omega)
  have fa := P.arr.frozen
  go_wp2
  go_region
  have P1 := P.set hlt 1 n
  generalize (W1.setCell ⟨b, 1, none⟩ (.int .u8 n)).drew = W2 at P1 ⊢
  go_wp2
  go_ret
  refine ⟨rfl, ⟨_, P1.arr, ?_⟩, P1.below⟩
  show ∀ (j : Nat) (y : Int), _
  intro j y hy
  match j, hy with
  | 0, hy => simp [encI] at hy; subst hy; rfl
  | 1, hy => simp [encI] at hy; subst hy; rfl

theorem put_int (b : Nat) (n : Int) (s : ByteArray) (w : World) (A : Arr w b (fun _ => 0)) :
    Calls Try.prog 25 #[.pointer (some ⟨b, 0, none⟩), .agg #[.int .i64 1, .int .i64 n, .string s]] w fun e w' => IsPut b ⟨1, n, s⟩ w e w' := by
  have hlt := A.lt
  go_enter Try.func25, Try.ntmps25
  go_wp2
  refine gen_world (G := fun W => Code.wp _ _ _ _ W) (R := fun W => PutW b ⟨1, n, s⟩ w W (fun _ => 0)) _ (PutW.start A) ?_
  intro W0 P0
  have b0 := P0.box.c0
  have a0 := P0.arr.cell 0 (by omega)
  have fa := P0.arr.frozen
  go_region
  have P := P0.set hlt 0 1
  generalize (W0.setCell ⟨b, 0, none⟩ (.int .u8 1)).drew = W1 at P ⊢
  clear b0 a0 fa P0
  have b0 := P.box.c0
  go_wp2
  go_loopw [16] (fun i wr => ∃ k : Nat, k ≤ 8 ∧ i = .int .i64 k ∧ ∃ f, PutW b ⟨1, n, s⟩ w wr f ∧ Hid (f 0 = 1 ∧ ∀ j, j < k → f (8 - j) = be8 n (7 - j))) (fun i _ => 8 - (intOf i).toNat)
  case atStart =>
    exact ⟨0, by omega, rfl, _, P, ⟨rfl, by intro j hj; omega⟩⟩
  case round =>
    obtain ⟨k, hk, rfl, f, P2, HF⟩ := hrel
    clear b0
    have b1 := P2.box.c1
    have fa := P2.arr.frozen
    by_cases hk8 : k < 8
    · have ak := P2.arr.cell (8 - k) (by omega)
      go_wp2
      go_region
      have P3 := P2.set hlt (8 - k) (be8 n (7 - k))
      have e8 : be8 n (7 - k) = IntKind.u64.wrap n / 2 ^ (8 * k) % 256 := by unfold be8; rw [show 7 - (7 - k) = k by omega]
      rw [e8] at P3
      go_wp2
      go_roundw
      case rel =>
        refine ⟨k + 1, by omega, by go_num, _, P3, ?_⟩
        obtain ⟨h0, hj⟩ := HF.out
        show _ ∧ _
        refine ⟨by rw [if_neg (by omega)]; exact h0, fun j hjk => ?_⟩
        by_cases e : j = k
        · subst e
          rw [if_pos rfl]
          exact e8.symm
        · rw [if_neg (by omega)]
          exact hj j (by omega)
      case measure => simp [intOf]; omega
    · have hk8 : k = 8 := by omega
      subst hk8
      go_wp2
      go_ret
      refine ⟨rfl, ⟨f, P2.arr, ?_⟩, P2.below⟩
      obtain ⟨h0, hj⟩ := HF.out
      show ∀ (j : Nat) (y : Int), _
      intro j y hy
      match j, hy with
      | 0, hy => simp [encI] at hy; subst hy; exact h0
      | j + 1, hy =>
        have hj8 : j < 8 := by
          have := (List.getElem?_eq_some_iff.1 hy).1
          simp [encI] at this
          omega
        simp [encI, hj8] at hy
        subst hy
        have := hj (7 - j) (by omega)
        rw [show 8 - (7 - j) = j + 1 by omega, show 7 - (7 - j) = j by omega] at this
        exact this

end Go.Proofs.Ytmhcdmebienlpaa
