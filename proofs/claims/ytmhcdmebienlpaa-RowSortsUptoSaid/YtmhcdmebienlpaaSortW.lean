/- The library's stable sort at lists of rows: the state that it passes through; its insertion sort. -/
import Derived.Test.YtmhcdmebienlpaaRowCmp
import Derived.Test.YtmhcdmebienlpaaRowPure
import Derived.Test.YtmhcdmebienlpaaAfter
import Derived.Sort.LotA
namespace Go.Proofs.Ytmhcdmebienlpaa
open Go.RowKit
open Go.Sort (swp PermIn SortedIn SWO Ins)

/-- Rows by their numbers: row i is the slice ⟨q i, l i, c i⟩ and holds the values x i. -/
structure Rws where
  n : Nat
  q : Nat → Option Addr
  l : Nat → Nat
  c : Nat → Nat
  x : Nat → Nat → Val

/-- The row as the model holds it. -/
abbrev Rws.v (R : Rws) (i : Nat) : Value := .slice (R.q i) (R.l i) (R.c i)
/-- Which of two rows goes ahead. -/
def Rws.cf (R : Rws) (i k : Nat) : Int := cmpRow (R.l i) (R.l k) (R.x i) (R.x k)
def Rws.lt (R : Rws) (i k : Nat) : Bool := decide (R.cf i k < 0)
/-- All rows lie in memory. -/
structure Rws.ok (R : Rws) (W : World) : Prop where
  row : ∀ i, i < R.n → RowP W (R.q i) (R.l i) (R.x i)
  len : ∀ i, i < R.n → R.l i ≤ 9223372036854775807

/-- What the sort passes through: block g holds the rows of the numbers d; all that lay in W0 lies there still. -/
structure SW (R : Rws) (W0 : World) (g : Nat) (d : Array Nat) (W : World) : Prop where
  below : Below W0.heap.size W0 W
  new : W0.heap.size ≤ g
  row : ∃ cur : Array Value, W.heap[g]? = some (.cells cur 22 (0, 0)) ∧ d.size ≤ cur.size ∧ ∀ j, j < d.size → cur[j]? = some (R.v d[j]!)
  num : ∀ j, j < d.size → d[j]! < R.n

theorem SW.lt {R : Rws} {W0 W : World} {g : Nat} {d : Array Nat} (h : SW R W0 g d W) : g < W.heap.size := by
  obtain ⟨cur, h1, _⟩ := h.row
  rcases Nat.lt_or_ge g W.heap.size with h | h
  · exact h
  · rw [Array.getElem?_eq_none h] at h1; cases h1
theorem SW.cell {R : Rws} {W0 W : World} {g : Nat} {d : Array Nat} (h : SW R W0 g d W) (j : Nat) (hj : j < d.size) : W.cell? ⟨g, j, none⟩ = some (R.v d[j]!) := by
  obtain ⟨cur, h1, h2, h3⟩ := h.row
  rw [Lib.cell_of_heap h1, h3 j hj]
theorem SW.frozen {R : Rws} {W0 W : World} {g : Nat} {d : Array Nat} (h : SW R W0 g d W) (j : Nat) : W.frozen? ⟨g, j, none⟩ = false := by
  obtain ⟨cur, h1, h2, h3⟩ := h.row
  exact Lib.frozen_of_heap h1 j
theorem SW.ext {R : Rws} {W0 W W' : World} {g : Nat} {d : Array Nat} (h : SW R W0 g d W) (hb : Below W.heap.size W W') : SW R W0 g d W' := by
  have hl := h.lt
  obtain ⟨cur, h1, h2⟩ := h.row
  exact ⟨ext_trans h.below hb, h.new, ⟨cur, by rw [hb.block g hl]; exact h1, h2⟩, h.num⟩
theorem SW.drew {R : Rws} {W0 W : World} {g : Nat} {d : Array Nat} (h : SW R W0 g d W) : SW R W0 g d W.drew := h.ext (Below.refl _ _).drew
theorem SW.swap {R : Rws} {W0 W : World} {g : Nat} {d : Array Nat} (h : SW R W0 g d W) (j k : Nat) (hj : j < d.size) (hk : k < d.size) :
    SW R W0 g (swp d j k) ((W.setCell ⟨g, j, none⟩ (R.v d[k]!)).setCell ⟨g, k, none⟩ (R.v d[j]!)) := by
  obtain ⟨cur, h1, h2, h3⟩ := h.row
  have hsz := Go.Sort.swp_size d j k
  refine ⟨(h.below.setCell (p := ⟨g, _, none⟩) h.new _).setCell (p := ⟨g, _, none⟩) h.new _, h.new, ⟨(cur.setIfInBounds j (R.v d[k]!)).setIfInBounds k (R.v d[j]!), ?_, by rw [hsz]; simpa using h2, ?_⟩, ?_⟩
  · rw [setCell_eq_setRow W g j cur _ _ _ h1]
    have e1 := setRow_heap W g cur (cur.setIfInBounds j (R.v d[k]!)) _ _ h1
    rw [setCell_eq_setRow _ g k _ _ _ _ e1]
    exact setRow_heap _ g _ _ _ _ e1
  · intro i hi
    rw [hsz] at hi
    rw [Go.Sort.swp_get d hj hk, Array.getElem?_setIfInBounds, Array.getElem?_setIfInBounds]
    by_cases e : i = k
    · subst e; simp [show i < cur.size by omega]
    · by_cases e2 : i = j
      · subst e2; simp [show i < cur.size by omega, e, Ne.symm e]
      · simp [Ne.symm e, Ne.symm e2, e, e2, h3 i hi]
  · intro i hi
    rw [hsz] at hi
    rw [Go.Sort.swp_get d hj hk]
    split
    · exact h.num j hj
    · split
      · exact h.num k hk
      · exact h.num i hi

/-- The comparison, called in a world of the sort's. -/
theorem SW.cmp {R : Rws} {W0 W : World} {g : Nat} {d : Array Nat} (h : SW R W0 g d W) (hok : R.ok W0) (i k : Nat) (hi : i < R.n) (hk : k < R.n) (W' : World) (hb : Below W.heap.size W W') :
    Calls Try.prog 22 #[R.v i, R.v k] W' fun e w' => e = .returned (.int .i64 (R.cf i k)) ∧ Below W'.heap.size W' w' :=
  rowCompare_any (R.q i) (R.q k) (R.l i) (R.c i) (R.l k) (R.c k) (R.x i) (R.x k) W' (hok.len i hi) (hok.len k hk) ((hok.row i hi).ext (ext_trans h.below hb)) ((hok.row k hk).ext (ext_trans h.below hb))

theorem permIn_refl {d : Array Nat} {a b : Nat} : PermIn a b d d := Go.Sort.permIn_refl d a b
theorem permIn_trans {d d' d'' : Array Nat} {a b : Nat} (h : PermIn a b d d') (h' : PermIn a b d' d'') : PermIn a b d d'' := Go.Sort.permIn_trans d d' d'' a b h h'
theorem permIn_swp {d : Array Nat} {a b i j : Nat} (h1 : a ≤ i) (h2 : i < b) (h3 : a ≤ j) (h4 : j < b) (h5 : b ≤ d.size) : PermIn a b d (swp d i j) := Go.Sort.swp_permIn d a b i j h1 h2 h3 h4 h5

set_option maxRecDepth 100000 in
set_option maxHeartbeats 4000000 in
/-- insertionSortCmpFunc: from a world of the sort's to one of the sort's, the places from a on, short of b, in order. -/
theorem insertion_any (R : Rws) (W0 : World) (g cap a b : Nat) (d : Array Nat) (w : World) (hS : SWO R.lt) (hok : R.ok W0) (S : SW R W0 g d w) (hab : a ≤ b) (hb : b ≤ d.size) (hsz : d.size ≤ 4611686018427387904) :
    Calls Try.prog 47 #[.slice (some ⟨g, 0, none⟩) d.size cap, .int .i64 a, .int .i64 b, .func (.func 22) #[] #[]] w fun e w' => e = .returned (.tuple #[]) ∧ ∃ d', SW R W0 g d' w' ∧ PermIn a b d d' ∧ SortedIn R.lt a b d' := by
  go_enter Try.func47, Try.ntmps47
  go_wp2
  go_loopw [8] (fun vi wr => ∃ (i : Nat) (dk : Array Nat), vi = .int .i64 i ∧ a < i ∧ (i ≤ b ∨ i = a + 1) ∧ Hid (PermIn a b d dk ∧ SortedIn R.lt a i dk ∧ SW R W0 g dk wr)) (fun vi _ => b + 1 - (intOf vi).toNat)
  case atStart => exact ⟨a + 1, d, by go_num, by omega, .inr rfl, ⟨permIn_refl, fun i j h1 h2 h3 => by omega, S⟩⟩
  case round =>
    clear S
    obtain ⟨i, dk, rfl, hai, hib, HH⟩ := hrel
    have hsk : dk.size = d.size := HH.out.1.1
    by_cases hlt : i < b
    · go_wp2_with fail
      go_loopw [9] (fun vj wq => ∃ (j : Nat) (dj : Array Nat), vj = .int .i64 j ∧ a ≤ j ∧ j ≤ i ∧ Hid (PermIn a b d dj ∧ Ins R.lt a j i dj ∧ SW R W0 g dj wq)) (fun vj _ => (intOf vj).toNat)
      case atStart =>
        refine ⟨i, dk, rfl, by omega, Nat.le_refl _, ⟨HH.out.1, ⟨fun p q h1 h2 h3 h4 h5 => HH.out.2.1 p q h1 h2 (by omega), fun q h1 h2 => by omega⟩, HH.out.2.2⟩⟩
      case round =>
        clear HH
        obtain ⟨j, dj, rfl, haj, hji, HJ⟩ := hrel
        have hsj : dj.size = d.size := HJ.out.1.1
        by_cases hja : a < j
        · obtain ⟨jp, rfl⟩ : ∃ jp, j = jp + 1 := ⟨j - 1, by omega⟩
          have bja : decide ((jp : Int) + 1 > (a : Int)) = true := decide_eq_true (by omega)
          have bjb : (a : Int) < (jp : Int) + 1 := by omega
          have Sj := HJ.out.2.2
          have hl := Sj.lt
          have q0 := fun (z : After wr) => (z.cell g (jp + 1) hl).trans (Sj.cell (jp + 1) (by omega))
          have q1 := fun (z : After wr) => (z.cell g jp hl).trans (Sj.cell jp (by omega))
          have hcm := Lib.hid (fun W' hb => Sj.cmp hok dj[jp + 1]! dj[jp]! (Sj.num (jp + 1) (by omega)) (Sj.num jp (by omega)) W' hb)
          have is := After.some wr
          have z1 : (jp : Int) + 1 < (d.size : Int) := by omega
          have z2 : (jp : Int) < (d.size : Int) := by omega
          have z3 : (0 : Int) ≤ (jp : Int) + 1 := by omega
          have z4 : ((jp : Int) + 1).toNat = jp + 1 := by omega
          have z5 : IntKind.i64.wrap ((jp : Int) + 1) = (jp : Int) + 1 := by rw [IntKind.wrap_i64]; omega
          have z6 : IntKind.i64.wrap (jp : Int) = (jp : Int) := by rw [IntKind.wrap_i64]; omega
          clear Sj
          cases hv : R.lt dj[jp + 1]! dj[jp]! with
          | true =>
            have hd : decide (R.cf dj[jp + 1]! dj[jp]! < 0) = true := hv
            go_wp2_with fail
            refine wp_region_after (by kernel_rfl) (by kernel_rfl) ?_
            repeat (quiet_step ((first | (go_at_call 22; exact calls_after (hcm.out _ (After.below _))))))
            refine wpQuiet_nil ?_
            intro _ hw
            obtain ⟨⟨W1, hb1⟩, rfl⟩ := hw
            clear q0 q1 is hcm
            have S1 := HJ.out.2.2.ext hb1
            have SS := Lib.hid (S1.swap (jp + 1) jp (by omega) (by omega))
            have c0 := S1.cell (jp + 1) (by omega)
            have c1 := S1.cell jp (by omega)
            have f0 := S1.frozen
            clear S1 hb1
            go_wp2_with fail
            go_region
            clear c0 c1 f0
            go_wp2
            go_roundw
            case rel => exact ⟨jp, swp dj (jp + 1) jp, rfl, by omega, by omega, ⟨permIn_trans HJ.out.1 (permIn_swp (by omega) (by omega) (by omega) (by omega) (by omega)), HJ.out.2.1.step hv (by omega) (by omega), SS.out.drew⟩⟩
            case measure => simp [intOf]
          | false =>
            have hd : decide (R.cf dj[jp + 1]! dj[jp]! < 0) = false := hv
            go_wp2_with fail
            refine wp_region_after (by kernel_rfl) (by kernel_rfl) ?_
            repeat (quiet_step ((first | (go_at_call 22; exact calls_after (hcm.out _ (After.below _))))))
            refine wpQuiet_nil ?_
            intro _ hw
            obtain ⟨⟨W1, hb1⟩, rfl⟩ := hw
            clear q0 q1 is hcm
            have S1 := HJ.out.2.2.ext hb1
            go_wp2
            go_roundw
            case rel => exact ⟨i + 1, dj, by go_num, by omega, by omega, ⟨HJ.out.1, HJ.out.2.1.stop hS (.inr hv), S1⟩⟩
            case measure => simp [intOf]; omega
        · have bja : decide ((j : Int) > (a : Int)) = false := decide_eq_false (by omega)
          have bjb : ¬ (a : Int) < (j : Int) := by omega
          have S1 := Lib.hid HJ.out.2.2.drew
          go_wp2_with fail
          go_region
          go_wp2
          go_roundw
          case rel => exact ⟨i + 1, dj, by go_num, by omega, by omega, ⟨HJ.out.1, HJ.out.2.1.stop hS (.inl (by omega)), S1.out⟩⟩
          case measure => simp [intOf]; omega
    · have hib2 : i = b ∨ (i = a + 1 ∧ a = b) := by omega
      go_wp2
      go_end0
      exact ⟨rfl, dk, HH.out.2.2, HH.out.1, fun p q h1 h2 h3 => HH.out.2.1 p q h1 h2 (by omega)⟩

end Go.Proofs.Ytmhcdmebienlpaa
