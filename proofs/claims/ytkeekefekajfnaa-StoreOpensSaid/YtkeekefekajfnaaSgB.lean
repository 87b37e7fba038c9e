/- The store's own searches by a name: of tables, of columns, through the library's search with a function. -/
import Derived.Test.YtkeekefekajfnaaSgA
import Derived.Test.YtkeekefekajfnaaStR
namespace Go.Proofs.Ytkeekefekajfnaa
open Go.RowKit

theorem Tells.yes_of {P : Prop} {e : Ending} (h : Tells P e) (p : P) : e = .returned (.bool true) := by
  obtain ⟨b, rfl, hb⟩ := h
  rw [hb.2 p]
theorem Tells.no_of {P : Prop} {e : Ending} (h : Tells P e) (p : ¬ P) : e = .returned (.bool false) := by
  obtain ⟨b, rfl, hb⟩ := h
  cases b
  · rfl
  · exact absurd (hb.1 rfl) p

theorem findT_some (s : ByteArray) : ∀ (l : List Tab) (j : Nat) (u : Tab), l[j]? = some u → u.nm.toList = s.toList → 0 ≤ findT s l
  | [], j, u, h, _ => by simp at h
  | t :: l, j, u, h, e => by
    unfold findT
    by_cases h0 : t.nm.toList = s.toList
    · rw [if_pos h0]
      exact Int.le_refl _
    · rw [if_neg h0]
      cases j with
      | zero => simp at h; subst h; exact absurd e h0
      | succ j =>
        have ih := findT_some s l j u (by simpa using h) e
        rw [if_neg (by omega)]
        omega
theorem findT_take {s : ByteArray} {l : List Tab} {i : Nat} (h : 0 ≤ findT s (l.take i)) : ∃ (j : Nat) (u : Tab), j < i ∧ l[j]? = some u ∧ u.nm.toList = s.toList := Classical.byContradiction fun hn => by
  have := findT_none s (l.take i) (fun j u hu e => by
    rw [List.getElem?_take] at hu
    split at hu
    · rename_i hj; exact hn ⟨j, u, hj, hu, e⟩
    · cases hu)
  omega
theorem ArrA.take {α : Type} {lo hi : Nat} {q : Option Addr} {sz : Nat} {l : List α} {P : Nat → Nat → α → Prop} (h : ArrA lo hi q sz l P) (i : Nat) : ArrA lo hi q sz (l.take i) P := fun k hk => by
  rw [List.length_take] at hk
  obtain ⟨g, off, h1, h2, h3, h4⟩ := h k (by omega)
  refine ⟨g, off, h1, h2, h3, fun j x hx => h4 j x ?_⟩
  rw [List.getElem?_take] at hx
  split at hx
  · exact hx
  · cases hx

/-- The columns as tables that have their names alone. -/
abbrev colTabs (l : List Col) : List Tab := l.map fun c => ⟨c.nm, [], []⟩
/-- The place of the first column of a name, or -1. -/
def findC (s : ByteArray) (l : List Col) : Int := findT s (colTabs l)
theorem findC_ge (s : ByteArray) (l : List Col) : -1 ≤ findC s l := findT_ge _ _
theorem colTabs_at {l : List Col} {i : Nat} {t : Tab} (h : (colTabs l)[i]? = some t) : ∃ c, l[i]? = some c ∧ t.nm = c.nm := by
  rw [List.getElem?_map] at h
  cases hl : l[i]? with
  | none => rw [hl] at h; cases h
  | some c => rw [hl] at h; simp at h; exact ⟨c, rfl, by rw [← h]⟩
theorem findC_at (s : ByteArray) (l : List Col) (i : Nat) (c : Col) (h : l[i]? = some c) (he : c.nm.toList = s.toList) (hn : ∀ (j : Nat) (u : Col), j < i → l[j]? = some u → u.nm.toList ≠ s.toList) : findC s l = i :=
  findT_at s (colTabs l) i ⟨c.nm, [], []⟩ (by rw [List.getElem?_map, h]; rfl) he fun j u hj hu => by
    obtain ⟨d, hd, e⟩ := colTabs_at hu
    rw [e]
    exact hn j d hj hd
theorem findC_none (s : ByteArray) (l : List Col) (hn : ∀ (j : Nat) (u : Col), l[j]? = some u → u.nm.toList ≠ s.toList) : findC s l = -1 := findT_none s _ fun j u hu => by
  obtain ⟨d, hd, e⟩ := colTabs_at hu
  rw [e]
  exact hn j d hd
theorem findC_some (s : ByteArray) (l : List Col) (j : Nat) (u : Col) (h : l[j]? = some u) (e : u.nm.toList = s.toList) : 0 ≤ findC s l := findT_some s (colTabs l) j ⟨u.nm, [], []⟩ (by rw [List.getElem?_map, h]; rfl) e
theorem findC_take {s : ByteArray} {l : List Col} {i : Nat} (h : 0 ≤ findC s (l.take i)) : ∃ (j : Nat) (u : Col), j < i ∧ l[j]? = some u ∧ u.nm.toList = s.toList := by
  unfold findC colTabs at h
  rw [List.map_take] at h
  obtain ⟨j, u, hj, hu, e⟩ := findT_take h
  obtain ⟨d, hd, ed⟩ := colTabs_at hu
  exact ⟨j, d, hj, hd, by rw [← ed]; exact e⟩

theorem placeFn_any (t : Tab) (p p' : Option Addr) (c c' b : Nat) (s : ByteArray) (w : World) (hb : w.cell? ⟨b, 0, none⟩ = some (.string s)) (hlt : b < w.heap.size) :
    Calls Try.prog 40 #[tabV t p p' c c', .pointer (some ⟨b, 0, none⟩)] w fun e w' => e = .returned (.bool (t.nm.toList == s.toList)) ∧ Below w.heap.size w w' := by
  go_enter Try.func40, Try.ntmps40
  go_wp2
  go_ret
  exact ⟨rfl, (Below.refl _ _).alloc (Nat.le_refl _) _⟩

set_option maxRecDepth 100000 in
set_option maxHeartbeats 1000000 in
theorem indexT_any (l : List Tab) (s : ByteArray) (q : Option Addr) (n c bl bh b : Nat) (w : World) (hn : n = l.length) (hc : n ≤ c) (hc2 : c ≤ 9223372036854775807) (hT : TabsA w bl bh q l) (hh : bh ≤ w.heap.size) (hb : w.cell? ⟨b, 0, none⟩ = some (.string s)) (hlt : b < w.heap.size) :
    Calls Try.prog 39 #[.slice q n c, .func (.func 40) #[] #[.pointer (some ⟨b, 0, none⟩)]] w fun e w' => e = .returned (.int .i64 (findT s l)) ∧ Below w.heap.size w w' := by
  subst hn
  have HT := Lib.hid hT
  have HB := Lib.hid hb
  clear hT hb
  obtain ⟨r, hr⟩ : ∃ r, r = findT s l := ⟨_, rfl⟩
  rw [← hr]
  have HR := Lib.hid hr
  clear hr
  go_enter Try.func39, Try.ntmps39
  go_wp2
  go_loopw [8] (fun vi wr => ∃ i : Nat, vi = .int .i64 i ∧ i ≤ l.length ∧ Hid ((∀ (j : Nat) (t : Tab), j < i → l[j]? = some t → t.nm.toList ≠ s.toList) ∧ Below w.heap.size w wr)) (fun vi _ => l.length - (intOf vi).toNat)
  case atStart => exact ⟨0, rfl, Nat.zero_le _, fun j d hj => absurd hj (Nat.not_lt_zero _), Below.refl _ _⟩
  case round =>
    obtain ⟨i, rfl, hi, HH⟩ := hrel
    obtain ⟨V, hV⟩ : ∃ V, V = wr := ⟨_, rfl⟩
    subst hV
    by_cases hlt2 : i < l.length
    · obtain ⟨g, off, rfl, hg1, hg2, hcA⟩ := (HT.out.same (Same.of HH.out.2 hh)) i hlt2
      obtain ⟨t, ht⟩ : ∃ t, t = l[i] := ⟨_, rfl⟩
      have hti : l[i]? = some t := by rw [ht]; exact List.getElem?_eq_getElem hlt2
      have HTI := Lib.hid hti
      obtain ⟨⟨a0, a3⟩, ⟨p1, c1, a1, a4, a5, hC⟩, p2, c2, a2, a6, a7, hR⟩ := hcA i t hti
      have hcb : V.cell? ⟨b, 0, none⟩ = some (.string s) := (HH.out.2.cell (p := ⟨b, 0, none⟩) hlt).trans HB.out
      have hlb : b < V.heap.size := Nat.lt_of_lt_of_le hlt HH.out.2.size
      have FN := Lib.hid (placeFn_any t p1 p2 c1 c2 b s V hcb hlb)
      clear ht hti hcA hC hR hcb
      by_cases e : t.nm.toList = s.toList
      · have eb : (t.nm.toList == s.toList) = true := by simpa using e
        have hri : r = (i : Int) := by rw [HR.out]; exact findT_at s l i t HTI.out e HH.out.1
        have EB := Lib.hid eb
        clear e eb
        subst hri
        go_wp2_with (first | (go_at_call 40; go_must (refine (FN.out).mono ?_; rintro e w1 ⟨rfl, hb1⟩; rw [EB.out]; have HB1 := Lib.hid hb1; clear hb1)))
        go_ret
        exact ⟨rfl, ext_trans HH.out.2 HB1.out⟩
      · have eb : (t.nm.toList == s.toList) = false := by simpa using e
        have EB := Lib.hid eb
        have EE := Lib.hid e
        clear e eb
        go_wp2_with (first | (go_at_call 40; go_must (refine (FN.out).mono ?_; rintro e w1 ⟨rfl, hb1⟩; rw [EB.out]; have HB1 := Lib.hid hb1; clear hb1)))
        go_roundw
        case rel =>
          refine ⟨i + 1, by go_num, hlt2, fun j d hj hd => ?_, ext_trans HH.out.2 HB1.out⟩
          by_cases ej : j = i
          · subst ej
            rw [HTI.out] at hd
            cases hd
            exact EE.out
          · exact HH.out.1 j d (by omega) hd
        case measure => simp [intOf] <;> omega
    · have hri : r = -1 := by rw [HR.out]; exact findT_none s l (fun j u hu => HH.out.1 j u (by have := (List.getElem?_eq_some_iff.1 hu).1; omega) hu)
      subst hri
      go_wp2
      go_ret
      exact ⟨rfl, HH.out.2⟩

set_option maxRecDepth 100000 in
set_option maxHeartbeats 1000000 in
theorem place_any (l : List Tab) (s : ByteArray) (q : Option Addr) (n c bl bh : Nat) (w : World) (hn : n = l.length) (hc : n ≤ c) (hc2 : c ≤ 9223372036854775807) (hT : TabsA w bl bh q l) (hh : bh ≤ w.heap.size) :
    Calls Try.prog 27 #[.slice q n c, .string s] w fun e w' => e = .returned (.int .i64 (findT s l)) ∧ Below w.heap.size w w' := by
  have hb := ext_alloc (ext_refl w) (.cells #[.string s] 9)
  have FN := Lib.hid (indexT_any l s q n c bl bh w.heap.size (w.alloc (.cells #[.string s] 9)) hn hc hc2 (hT.same (Same.of hb hh)) (by simp; omega) (by rw [Lib.cell_of_heap (heap_alloc_new w _)]; rfl) (by simp))
  clear hn hT
  go_enter Try.func27, Try.ntmps27
  go_wp2_with (first | (go_at_call 39; go_must (refine (FN.out).mono ?_; rintro e w1 ⟨rfl, hb1⟩)))
  go_ret
  exact ⟨rfl, hb.trans (hb1.mono (by simp))⟩

theorem colFn_any (t : Col) (b : Nat) (s : ByteArray) (w : World) (hb : w.cell? ⟨b, 0, none⟩ = some (.string s)) (hlt : b < w.heap.size) :
    Calls Try.prog 57 #[.agg #[.string t.nm, .int .i64 t.kd], .pointer (some ⟨b, 0, none⟩)] w fun e w' => e = .returned (.bool (t.nm.toList == s.toList)) ∧ Below w.heap.size w w' := by
  go_enter Try.func57, Try.ntmps57
  go_wp2
  go_ret
  exact ⟨rfl, (Below.refl _ _).alloc (Nat.le_refl _) _⟩

set_option maxRecDepth 100000 in
set_option maxHeartbeats 1000000 in
theorem indexC_any (l : List Col) (s : ByteArray) (q : Option Addr) (n c bl bh b : Nat) (w : World) (hn : n = l.length) (hc : n ≤ c) (hc2 : c ≤ 9223372036854775807) (hT : ColsA w bl bh q l) (hh : bh ≤ w.heap.size) (hb : w.cell? ⟨b, 0, none⟩ = some (.string s)) (hlt : b < w.heap.size) :
    Calls Try.prog 70 #[.slice q n c, .func (.func 57) #[] #[.pointer (some ⟨b, 0, none⟩)]] w fun e w' => e = .returned (.int .i64 (findC s l)) ∧ Below w.heap.size w w' := by
  subst hn
  have HT := Lib.hid hT
  have HB := Lib.hid hb
  clear hT hb
  obtain ⟨r, hr⟩ : ∃ r, r = findC s l := ⟨_, rfl⟩
  rw [← hr]
  have HR := Lib.hid hr
  clear hr
  go_enter Try.func70, Try.ntmps70
  go_wp2
  go_loopw [8] (fun vi wr => ∃ i : Nat, vi = .int .i64 i ∧ i ≤ l.length ∧ Hid ((∀ (j : Nat) (t : Col), j < i → l[j]? = some t → t.nm.toList ≠ s.toList) ∧ Below w.heap.size w wr)) (fun vi _ => l.length - (intOf vi).toNat)
  case atStart => exact ⟨0, rfl, Nat.zero_le _, fun j d hj => absurd hj (Nat.not_lt_zero _), Below.refl _ _⟩
  case round =>
    obtain ⟨i, rfl, hi, HH⟩ := hrel
    obtain ⟨V, hV⟩ : ∃ V, V = wr := ⟨_, rfl⟩
    subst hV
    by_cases hlt2 : i < l.length
    · obtain ⟨g, off, rfl, hg1, hg2, hcA⟩ := (HT.out.same (Same.of HH.out.2 hh)) i hlt2
      obtain ⟨t, ht⟩ : ∃ t, t = l[i] := ⟨_, rfl⟩
      have hti : l[i]? = some t := by rw [ht]; exact List.getElem?_eq_getElem hlt2
      have HTI := Lib.hid hti
      obtain ⟨⟨a0, a1⟩, a3⟩ := hcA i t hti
      have hcb : V.cell? ⟨b, 0, none⟩ = some (.string s) := (HH.out.2.cell (p := ⟨b, 0, none⟩) hlt).trans HB.out
      have hlb : b < V.heap.size := Nat.lt_of_lt_of_le hlt HH.out.2.size
      have FN := Lib.hid (colFn_any t b s V hcb hlb)
      clear ht hti hcA hcb
      by_cases e : t.nm.toList = s.toList
      · have eb : (t.nm.toList == s.toList) = true := by simpa using e
        have hri : r = (i : Int) := by rw [HR.out]; exact findC_at s l i t HTI.out e HH.out.1
        have EB := Lib.hid eb
        clear e eb
        subst hri
        go_wp2_with (first | (go_at_call 57; go_must (refine (FN.out).mono ?_; rintro e w1 ⟨rfl, hb1⟩; rw [EB.out]; have HB1 := Lib.hid hb1; clear hb1)))
        go_ret
        exact ⟨rfl, ext_trans HH.out.2 HB1.out⟩
      · have eb : (t.nm.toList == s.toList) = false := by simpa using e
        have EB := Lib.hid eb
        have EE := Lib.hid e
        clear e eb
        go_wp2_with (first | (go_at_call 57; go_must (refine (FN.out).mono ?_; rintro e w1 ⟨rfl, hb1⟩; rw [EB.out]; have HB1 := Lib.hid hb1; clear hb1)))
        go_roundw
        case rel =>
          refine ⟨i + 1, by go_num, hlt2, fun j d hj hd => ?_, ext_trans HH.out.2 HB1.out⟩
          by_cases ej : j = i
          · subst ej
            rw [HTI.out] at hd
            cases hd
            exact EE.out
          · exact HH.out.1 j d (by omega) hd
        case measure => simp [intOf] <;> omega
    · have hri : r = -1 := by rw [HR.out]; exact findC_none s l (fun j u hu => HH.out.1 j u (by have := (List.getElem?_eq_some_iff.1 hu).1; omega) hu)
      subst hri
      go_wp2
      go_ret
      exact ⟨rfl, HH.out.2⟩

set_option maxRecDepth 100000 in
set_option maxHeartbeats 1000000 in
theorem containsC_any (l : List Col) (s : ByteArray) (q : Option Addr) (n c bl bh b : Nat) (w : World) (hn : n = l.length) (hc : n ≤ c) (hc2 : c ≤ 9223372036854775807) (hT : ColsA w bl bh q l) (hh : bh ≤ w.heap.size) (hb : w.cell? ⟨b, 0, none⟩ = some (.string s)) (hlt : b < w.heap.size) :
    Calls Try.prog 56 #[.slice q n c, .func (.func 57) #[] #[.pointer (some ⟨b, 0, none⟩)]] w fun e w' => e = .returned (.bool (decide (0 ≤ findC s l))) ∧ Below w.heap.size w w' := by
  obtain ⟨r, hr⟩ : ∃ r, r = findC s l := ⟨_, rfl⟩
  have FN := indexC_any l s q n c bl bh b w hn hc hc2 hT hh hb hlt
  rw [← hr] at FN ⊢
  have F := Lib.hid FN
  clear hr FN hn hT hb
  go_enter Try.func56, Try.ntmps56
  go_wp2_with (first | (go_at_call 70; go_must (refine (F.out).mono ?_; rintro e w1 ⟨rfl, hb1⟩)))
  go_ret
  exact ⟨rfl, hb1⟩

set_option maxRecDepth 100000 in
set_option maxHeartbeats 1000000 in
theorem hasCol_any (l : List Col) (s : ByteArray) (q : Option Addr) (n c bl bh : Nat) (w : World) (hn : n = l.length) (hc : n ≤ c) (hc2 : c ≤ 9223372036854775807) (hT : ColsA w bl bh q l) (hh : bh ≤ w.heap.size) :
    Calls Try.prog 49 #[.slice q n c, .string s] w fun e w' => e = .returned (.bool (decide (0 ≤ findC s l))) ∧ Below w.heap.size w w' := by
  have hb := ext_alloc (ext_refl w) (.cells #[.string s] 9)
  have FN := Lib.hid (containsC_any l s q n c bl bh w.heap.size (w.alloc (.cells #[.string s] 9)) hn hc hc2 (hT.same (Same.of hb hh)) (by simp; omega) (by rw [Lib.cell_of_heap (heap_alloc_new w _)]; rfl) (by simp))
  obtain ⟨r, hr⟩ : ∃ r, r = decide (0 ≤ findC s l) := ⟨_, rfl⟩
  rw [← hr] at FN ⊢
  clear hr hn hT
  go_enter Try.func49, Try.ntmps49
  go_wp2_with (first | (go_at_call 56; go_must (refine (FN.out).mono ?_; rintro e w1 ⟨rfl, hb1⟩)))
  go_ret
  exact ⟨rfl, hb.trans (hb1.mono (by simp))⟩

end Go.Proofs.Ytkeekefekajfnaa
