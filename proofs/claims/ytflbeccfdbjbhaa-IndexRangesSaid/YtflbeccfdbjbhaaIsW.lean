/- The library's stable sort at lists of places: the state that it passes through; its insertion sort. -/
import Derived.Test.YtflbeccfdbjbhaaIxP
import Derived.Test.YtflbeccfdbjbhaaStD
import Derived.Test.YtflbeccfdbjbhaaValH
import Derived.Test.YtflbeccfdbjbhaaAfter
import Derived.Sort.LotA
namespace Go.Proofs.Ytflbeccfdbjbhaa
open Go.RowKit
open Go.Sort (swp PermIn SortedIn SWO Ins)

/-- Values by their places; the two things that the comparison bears along. -/
structure Rws where
  n : Nat
  x : Nat → Val
  c1 : Value
  c2 : Value

/-- A place as the model holds it. -/
abbrev Rws.v (_ : Rws) (i : Nat) : Value := .int .i64 (i : Int)
/-- Which of two values goes ahead. -/
def Rws.cf (R : Rws) (i k : Nat) : Int := (R.x i).cmp (R.x k)
/-- Which of two places goes ahead: by the values, and for the same values by place. -/
def Rws.lt (R : Rws) (i k : Nat) : Bool := decide (R.cf i k < 0) || (decide (R.cf i k = 0) && decide (i < k))
theorem Rws.late (R : Rws) {i k : Nat} (h : k < i) : R.lt i k = decide (R.cf i k < 0) := by
  unfold Rws.lt
  rw [show decide (i < k) = false from decide_eq_false (by omega), Bool.and_false, Bool.or_false]
theorem Rws.yes (R : Rws) {i k : Nat} {b : Bool} (hv : R.lt i k = b) (h : k < i) : decide (R.cf i k < 0) = b := by rw [← R.late h]; exact hv
theorem Rws.lt_iff (R : Rws) {i k : Nat} : R.lt i k = true ↔ R.cf i k < 0 ∨ (R.cf i k = 0 ∧ i < k) := by
  unfold Rws.lt
  simp only [Bool.or_eq_true, Bool.and_eq_true, decide_eq_true_eq]
theorem Rws.not_lt (R : Rws) {i k : Nat} : R.lt i k = false ↔ ¬ (R.cf i k < 0 ∨ (R.cf i k = 0 ∧ i < k)) := by rw [← R.lt_iff, Bool.not_eq_true]
theorem Rws.swo (R : Rws) : SWO R.lt where
  irrefl x := by
    rw [R.not_lt]
    have : R.cf x x = 0 := cmp_self _
    omega
  trans x y z h k := by
    rw [R.lt_iff] at *
    unfold Rws.cf at *
    have e1 : (R.x x).cmp (R.x y) = 0 → (R.x x).cmp (R.x z) = (R.x y).cmp (R.x z) := fun e => by rw [cmp_zero e]
    have e2 : (R.x y).cmp (R.x z) = 0 → (R.x x).cmp (R.x y) = (R.x x).cmp (R.x z) := fun e => by rw [cmp_zero e]
    obtain ⟨_, o2, o3, o4, o5, o6⟩ := cmp_ord (R.x x) (R.x y) (R.x z)
    omega
  ntrans x y z h k := by
    rw [R.not_lt] at *
    unfold Rws.cf at *
    have e1 : (R.x x).cmp (R.x y) = 0 → (R.x x).cmp (R.x z) = (R.x y).cmp (R.x z) := fun e => by rw [cmp_zero e]
    have e2 : (R.x y).cmp (R.x z) = 0 → (R.x x).cmp (R.x y) = (R.x x).cmp (R.x z) := fun e => by rw [cmp_zero e]
    have a1 := cmp_anti (R.x x) (R.x y)
    have a2 := cmp_anti (R.x y) (R.x z)
    have a3 := cmp_anti (R.x x) (R.x z)
    obtain ⟨_, o2, o3, o4, o5, o6⟩ := cmp_ord (R.x z) (R.x y) (R.x x)
    omega
/-- The comparison answers so, in whatever world that has kept what there was. -/
structure Rws.ok (R : Rws) (W : World) : Prop where
  call : ∀ i k, i < R.n → k < R.n → ∀ W', Below W.heap.size W W' → Calls Try.prog 26 #[R.v i, R.v k, R.c1, R.c2] W' fun e w' => e = .returned (.int .i64 (R.cf i k)) ∧ Below W'.heap.size W' w'

/-- What the sort passes through: block g holds the rows of the numbers d; all that lay in W0 lies there still. -/
structure SW (R : Rws) (W0 : World) (g : Nat) (d : Array Nat) (W : World) : Prop where
  below : Below W0.heap.size W0 W
  new : W0.heap.size ≤ g
  row : ∃ cur : Array Value, W.heap[g]? = some (.cells cur 3 (0, 0)) ∧ d.size ≤ cur.size ∧ ∀ j, j < d.size → cur[j]? = some (R.v d[j]!)
  num : ∀ j, j < d.size → d[j]! < R.n

theorem SW.lt {R : Rws} {W0 W : World} {g : Nat} {d : Array Nat} (h : SW R W0 g d W) : g < W.heap.size := by
  obtain ⟨cur, h1, _⟩ := h.row
  rcases Nat.lt_or_ge g W.heap.size with h | h
  · exact h
  · rw [Array.getElem?_eq_none h] at h1; cases h1
theorem SW.cell {R : Rws} {W0 W : World} {g : Nat} {d : Array Nat} (h : SW R W0 g d W) (j : Nat) (hj : j < d.size) : W.cell? ⟨g, j, none⟩ = some (R.v d[j]!) := by
  obtain ⟨cur, h1, h2, h3⟩ := h.row
  rw [Lib.cell_of_heap h1, h3 j hj]
theorem SW.frozen {R : Rws} {W0 W : World} {g : Nat} {d : Array Nat} (h : SW R W0 g d W) (j : Nat) : W.frozen? ⟨g, j, none⟩ = false := by
  obtain ⟨cur, h1, h2, h3⟩ := h.row
  exact Lib.frozen_of_heap h1 j
theorem SW.ext {R : Rws} {W0 W W' : World} {g : Nat} {d : Array Nat} (h : SW R W0 g d W) (hb : Below W.heap.size W W') : SW R W0 g d W' := by
  have hl := h.lt
  obtain ⟨cur, h1, h2⟩ := h.row
  exact ⟨ext_trans h.below hb, h.new, ⟨cur, by rw [hb.block g hl]; exact h1, h2⟩, h.num⟩
theorem SW.drew {R : Rws} {W0 W : World} {g : Nat} {d : Array Nat} (h : SW R W0 g d W) : SW R W0 g d W.drew := h.ext (Below.refl _ _).drew
theorem SW.swap {R : Rws} {W0 W : World} {g : Nat} {d : Array Nat} (h : SW R W0 g d W) (j k : Nat) (hj : j < d.size) (hk : k < d.size) :
    SW R W0 g (swp d j k) ((W.setCell ⟨g, j, none⟩ (R.v d[k]!)).setCell ⟨g, k, none⟩ (R.v d[j]!)) := by
  obtain ⟨cur, h1, h2, h3⟩ := h.row
  have hsz := Go.Sort.swp_size d j k
  refine ⟨(h.below.setCell (p := ⟨g, _, none⟩) h.new _).setCell (p := ⟨g, _, none⟩) h.new _, h.new, ⟨(cur.setIfInBounds j (R.v d[k]!)).setIfInBounds k (R.v d[j]!), ?_, by rw [hsz]; simpa using h2, ?_⟩, ?_⟩
  · rw [setCell_eq_setRow W g j cur _ _ _ h1]
    have e1 := setRow_heap W g cur (cur.setIfInBounds j (R.v d[k]!)) _ _ h1
    rw [setCell_eq_setRow _ g k _ _ _ _ e1]
    exact setRow_heap _ g _ _ _ _ e1
  · intro i hi
    rw [hsz] at hi
    rw [Go.Sort.swp_get d hj hk, Array.getElem?_setIfInBounds, Array.getElem?_setIfInBounds]
    by_cases e : i = k
    · subst e; simp [show i < cur.size by omega]
    · by_cases e2 : i = j
      · subst e2; simp [show i < cur.size by omega, e, Ne.symm e]
      · simp [Ne.symm e, Ne.symm e2, e, e2, h3 i hi]
  · intro i hi
    rw [hsz] at hi
    rw [Go.Sort.swp_get d hj hk]
    split
    · exact h.num j hj
    · split
      · exact h.num k hk
      · exact h.num i hi

/-- The comparison, called in a world of the sort's. -/
theorem SW.cmp {R : Rws} {W0 W : World} {g : Nat} {d : Array Nat} (h : SW R W0 g d W) (hok : R.ok W0) (i k : Nat) (hi : i < R.n) (hk : k < R.n) (W' : World) (hb : Below W.heap.size W W') :
    Calls Try.prog 26 #[R.v i, R.v k, R.c1, R.c2] W' fun e w' => e = .returned (.int .i64 (R.cf i k)) ∧ Below W'.heap.size W' w' :=
  hok.call i k hi hk W' (ext_trans h.below hb)

theorem permIn_refl {d : Array Nat} {a b : Nat} : PermIn a b d d := Go.Sort.permIn_refl d a b
theorem permIn_trans {d d' d'' : Array Nat} {a b : Nat} (h : PermIn a b d d') (h' : PermIn a b d' d'') : PermIn a b d d'' := Go.Sort.permIn_trans d d' d'' a b h h'
theorem permIn_swp {d : Array Nat} {a b i j : Nat} (h1 : a ≤ i) (h2 : i < b) (h3 : a ≤ j) (h4 : j < b) (h5 : b ≤ d.size) : PermIn a b d (swp d i j) := Go.Sort.swp_permIn d a b i j h1 h2 h3 h4 h5

set_option maxRecDepth 100000 in
set_option maxHeartbeats 4000000 in
/-- insertionSortCmpFunc: from a world of the sort's to one of the sort's, the places from a on, short of b, in order. -/
theorem insertion_any (R : Rws) (W0 : World) (g cap a b : Nat) (d : Array Nat) (w : World) (hS : SWO R.lt) (hok : R.ok W0) (S : SW R W0 g d w) (hab : a ≤ b) (hb : b ≤ d.size) (hsz : d.size ≤ 4611686018427387904) (hA : ∀ t, a ≤ t → t < b → d[t]! = t) :
    Calls Try.prog 31 #[.slice (some ⟨g, 0, none⟩) d.size cap, .int .i64 a, .int .i64 b, .func (.func 26) #[] #[R.c1, R.c2]] w fun e w' => e = .returned (.tuple #[]) ∧ ∃ d', SW R W0 g d' w' ∧ PermIn a b d d' ∧ SortedIn R.lt a b d' := by
  go_enter Try.func31, Try.ntmps31
  go_wp2
  go_loopw [8] (fun vi wr => ∃ (i : Nat) (dk : Array Nat), vi = .int .i64 i ∧ a < i ∧ (i ≤ b ∨ i = a + 1) ∧ Hid (PermIn a b d dk ∧ SortedIn R.lt a i dk ∧ SW R W0 g dk wr ∧ (∀ t, i ≤ t → t < b → dk[t]! = t) ∧ ∀ t, a ≤ t → t < i → t < b → dk[t]! < i)) (fun vi _ => b + 1 - (intOf vi).toNat)
  case atStart => exact ⟨a + 1, d, by go_num, by omega, .inr rfl, ⟨permIn_refl, fun i j h1 h2 h3 => by omega, S, fun t h1 h2 => hA t (by omega) h2, fun t h1 h2 h3 => by rw [hA t h1 h3]; omega⟩⟩
  case round =>
    clear S hA
    obtain ⟨i, dk, rfl, hai, hib, HH⟩ := hrel
    have hsk : dk.size = d.size := HH.out.1.1
    by_cases hlt : i < b
    · go_wp2_with fail
      go_loopw [9] (fun vj wq => ∃ (j : Nat) (dj : Array Nat), vj = .int .i64 j ∧ a ≤ j ∧ j ≤ i ∧ Hid (PermIn a b d dj ∧ Ins R.lt a j i dj ∧ SW R W0 g dj wq ∧ dj[j]! = i ∧ (∀ t, i < t → t < b → dj[t]! = t) ∧ ∀ t, a ≤ t → t ≤ i → t ≠ j → dj[t]! < i)) (fun vj _ => (intOf vj).toNat)
      case atStart =>
        refine ⟨i, dk, rfl, by omega, Nat.le_refl _, ⟨HH.out.1, ⟨fun p q h1 h2 h3 h4 h5 => HH.out.2.1 p q h1 h2 (by omega), fun q h1 h2 => by omega⟩, HH.out.2.2.1, HH.out.2.2.2.1 i (Nat.le_refl _) hlt, fun t h1 h2 => HH.out.2.2.2.1 t (by omega) h2, fun t h1 h2 h3 => HH.out.2.2.2.2 t h1 (by omega) (by omega)⟩⟩
      case round =>
        clear HH
        obtain ⟨j, dj, rfl, haj, hji, HJ⟩ := hrel
        have hsj : dj.size = d.size := HJ.out.1.1
        by_cases hja : a < j
        · obtain ⟨jp, rfl⟩ : ∃ jp, j = jp + 1 := ⟨j - 1, by omega⟩
          have bja : decide ((jp : Int) + 1 > (a : Int)) = true := decide_eq_true (by omega)
          have bjb : (a : Int) < (jp : Int) + 1 := by omega
          have Sj := HJ.out.2.2.1
          have hlate : dj[jp]! < dj[jp + 1]! := by rw [HJ.out.2.2.2.1]; exact HJ.out.2.2.2.2.2 jp (by omega) (by omega) (by omega)
          have HLA := Lib.hid hlate
          clear hlate
          have hl := Sj.lt
          have q0 := fun (z : After wr) => (z.cell g (jp + 1) hl).trans (Sj.cell (jp + 1) (by omega))
          have q1 := fun (z : After wr) => (z.cell g jp hl).trans (Sj.cell jp (by omega))
          have hcm := Lib.hid (fun W' hb => Sj.cmp hok dj[jp + 1]! dj[jp]! (Sj.num (jp + 1) (by omega)) (Sj.num jp (by omega)) W' hb)
          have is := After.some wr
          have z1 : (jp : Int) + 1 < (d.size : Int) := by omega
          have z2 : (jp : Int) < (d.size : Int) := by omega
          have z3 : (0 : Int) ≤ (jp : Int) + 1 := by omega
          have z4 : ((jp : Int) + 1).toNat = jp + 1 := by omega
          have z5 : IntKind.i64.wrap ((jp : Int) + 1) = (jp : Int) + 1 := by rw [IntKind.wrap_i64]; omega
          have z6 : IntKind.i64.wrap (jp : Int) = (jp : Int) := by rw [IntKind.wrap_i64]; omega
          clear Sj
          cases hv : R.lt dj[jp + 1]! dj[jp]! with
          | true =>
            have hd : decide (R.cf dj[jp + 1]! dj[jp]! < 0) = true := R.yes hv HLA.out
            go_wp2_with fail
            refine wp_region_after (by kernel_rfl) (by kernel_rfl) ?_
            repeat (quiet_step ((first | (go_at_call 26; exact calls_after (hcm.out _ (After.below _))))))
            refine wpQuiet_nil ?_
            intro _ hw
            obtain ⟨⟨W1, hb1⟩, rfl⟩ := hw
            clear q0 q1 is hcm
            have S1 := HJ.out.2.2.1.ext hb1
            have SS := Lib.hid (S1.swap (jp + 1) jp (by omega) (by omega))
            have c0 := S1.cell (jp + 1) (by omega)
            have c1 := S1.cell jp (by omega)
            have f0 := S1.frozen
            clear S1 hb1
            go_wp2_with fail
            go_region
            clear c0 c1 f0
            go_wp2
            go_roundw
            case rel =>
              refine ⟨jp, swp dj (jp + 1) jp, rfl, by omega, by omega, ⟨permIn_trans HJ.out.1 (permIn_swp (by omega) (by omega) (by omega) (by omega) (by omega)), HJ.out.2.1.step hv (by omega) (by omega), SS.out.drew, by rw [Go.Sort.swp_get dj (by omega) (by omega), if_pos rfl]; exact HJ.out.2.2.2.1, fun t h1 h2 => by rw [Go.Sort.swp_get dj (by omega) (by omega), if_neg (by omega), if_neg (by omega)]; exact HJ.out.2.2.2.2.1 t h1 h2, fun t h1 h2 h3 => ?_⟩⟩
              rw [Go.Sort.swp_get dj (by omega) (by omega), if_neg (by omega)]
              split
              · exact HJ.out.2.2.2.2.2 jp (by omega) (by omega) (by omega)
              · exact HJ.out.2.2.2.2.2 t h1 h2 (by omega)
            case measure => simp [intOf]
          | false =>
            have hd : decide (R.cf dj[jp + 1]! dj[jp]! < 0) = false := R.yes hv HLA.out
            go_wp2_with fail
            refine wp_region_after (by kernel_rfl) (by kernel_rfl) ?_
            repeat (quiet_step ((first | (go_at_call 26; exact calls_after (hcm.out _ (After.below _))))))
            refine wpQuiet_nil ?_
            intro _ hw
            obtain ⟨⟨W1, hb1⟩, rfl⟩ := hw
            clear q0 q1 is hcm
            have S1 := HJ.out.2.2.1.ext hb1
            go_wp2
            go_roundw
            case rel => exact ⟨i + 1, dj, by go_num, by omega, by omega, ⟨HJ.out.1, HJ.out.2.1.stop hS (.inr hv), S1, fun t h1 h2 => HJ.out.2.2.2.2.1 t (by omega) h2, fun t h1 h2 h3 => by
              by_cases e : t = jp + 1
              · rw [e, HJ.out.2.2.2.1]; omega
              · have := HJ.out.2.2.2.2.2 t h1 (by omega) e; omega⟩⟩
            case measure => simp [intOf]; omega
        · have bja : decide ((j : Int) > (a : Int)) = false := decide_eq_false (by omega)
          have bjb : ¬ (a : Int) < (j : Int) := by omega
          have S1 := Lib.hid HJ.out.2.2.1.drew
          go_wp2_with fail
          go_region
          go_wp2
          go_roundw
          case rel => exact ⟨i + 1, dj, by go_num, by omega, by omega, ⟨HJ.out.1, HJ.out.2.1.stop hS (.inl (by omega)), S1.out, fun t h1 h2 => HJ.out.2.2.2.2.1 t (by omega) h2, fun t h1 h2 h3 => by
              by_cases e : t = j
              · rw [e, HJ.out.2.2.2.1]; omega
              · have := HJ.out.2.2.2.2.2 t h1 (by omega) e; omega⟩⟩
          case measure => simp [intOf]; omega
    · have hib2 : i = b ∨ (i = a + 1 ∧ a = b) := by omega
      go_wp2
      go_end0
      exact ⟨rfl, dk, HH.out.2.2.1, HH.out.1, fun p q h1 h2 h3 => HH.out.2.1 p q h1 h2 (by omega)⟩

end Go.Proofs.Ytflbeccfdbjbhaa
