/- No word of a query is a name; what is a name is one with a letter more behind it, unless that makes it too long, or a word: whatever the text and the numbers. Conditions: none. -/
import Derived.Test.YtkeekefekajfnaaStNames
import Derived.Laws.IdiomStrings
import Derived.Laws.Concat
namespace Go.Proofs.Ytkeekefekajfnaa
open Go.ChangeShapes Go.WideShapes Go.ChangeAt Go.RowKit Go.Joins
set_option maxRecDepth 100000

/-- Names, told by their bytes. -/
def okU (b : UInt8) : Bool := (97 ≤ b.toNat && b.toNat ≤ 122) || (48 ≤ b.toNat && b.toNat ≤ 57) || b.toNat == 95
def nameB (l : List UInt8) : Bool := decide (1 ≤ l.length) && decide (l.length ≤ 20) && (match l with | [] => false | b :: _ => 97 ≤ b.toNat && b.toNat ≤ 122) && l.all okU && !(wordsL.map (fun x => x.data.toList)).contains l
theorem okB_of {b : UInt8} (h : okU b = true) : okB (b.toNat : Int) := by
  unfold okU at h
  unfold okB
  simp at h
  omega
theorem okU_of {b : UInt8} (h : okB (b.toNat : Int)) : okU b = true := by
  unfold okU
  unfold okB at h
  simp
  omega
theorem byt_of (s : ByteArray) (i : Nat) (h : i < s.data.toList.length) : byt s i = ((s.data.toList[i]).toNat : Int) := by
  unfold byt
  have : s.data[i]?.getD 0 = s.data.toList[i] := by
    rw [← Array.getElem?_toList, List.getElem?_eq_getElem h]
    rfl
  rw [this]
theorem byt_zero (s : ByteArray) : byt s 0 = match s.data.toList with | [] => 0 | b :: _ => (b.toNat : Int) := by
  unfold byt
  rw [← Array.getElem?_toList]
  cases s.data.toList <;> rfl
theorem size_of (s : ByteArray) : s.data.toList.length = s.size := by rw [Array.length_toList]; rfl
theorem nameB_iff (s : ByteArray) : nameB s.data.toList = true ↔ NameP s := by
  have hl := size_of s
  have hw : (wordsL.map (fun x => x.data.toList)).contains s.data.toList = false ↔ ∀ x ∈ wordsL, x.toList ≠ s.toList := by
    simp only [ByteArray.toList_eq]
    simp
  unfold nameB NameP
  rw [Bool.and_eq_true, Bool.and_eq_true, Bool.and_eq_true, Bool.and_eq_true, Bool.not_eq_true', hw, decide_eq_true_iff, decide_eq_true_iff, hl]
  constructor
  · rintro ⟨⟨⟨⟨h1, h2⟩, h3⟩, h4⟩, h5⟩
    refine ⟨⟨h1, h2⟩, ?_, fun i hi => ?_, h5⟩
    · rw [byt_zero]
      cases hd : s.data.toList with
      | nil => rw [hd] at h3; simp at h3
      | cons b t => rw [hd] at h3; simp at h3 ⊢; omega
    · rw [byt_of s i (by omega)]
      exact okB_of (List.all_eq_true.1 h4 _ (List.getElem_mem _))
  · rintro ⟨⟨h1, h2⟩, h3, h4, h5⟩
    refine ⟨⟨⟨⟨h1, h2⟩, ?_⟩, List.all_eq_true.2 fun b hb => ?_⟩, h5⟩
    · rw [byt_zero] at h3
      cases hd : s.data.toList with
      | nil => rw [hd] at hl; simp at hl; omega
      | cons b t => rw [hd] at h3; simp at h3 ⊢; omega
    · obtain ⟨i, hi, rfl⟩ := List.getElem_of_mem hb
      have := h4 i (by omega)
      rw [byt_of s i hi] at this
      exact okU_of this

theorem tmod_neg {z n : Int} (h : z ≤ 0) (hn : 0 < n) : ∃ i : Nat, z.tmod n = -(i : Int) ∧ (i : Int) < n := by
  refine ⟨((-z) % n).toNat, ?_, ?_⟩
  · have h1 : (0 : Int) ≤ (-z) % n := Int.emod_nonneg _ (by omega)
    rw [Int.toNat_of_nonneg h1, ← Int.tmod_eq_emod_of_nonneg (by omega), Int.neg_tmod, Int.neg_neg]
  · have h1 : (0 : Int) ≤ (-z) % n := Int.emod_nonneg _ (by omega)
    have h2 := Int.emod_lt_of_pos (-z) hn
    omega

theorem words_under : ∀ x ∈ wordsL, NameP (x ++ ⟨#[95]⟩) ∧ x.size ≤ 8 := by
  have h : (wordsL.all fun x => nameB (x.data.toList ++ [95]) && decide (x.size ≤ 8)) = true := by decide
  intro x hx
  have := List.all_eq_true.1 h x hx
  simp only [Bool.and_eq_true, decide_eq_true_iff] at this
  refine ⟨(nameB_iff _).1 ?_, this.2⟩
  have e : (x ++ ⟨#[95]⟩ : ByteArray).data.toList = x.data.toList ++ [95] := by simp
  rw [e]
  exact this.1

/-- A name and a letter more. -/
theorem name_more {s : ByteArray} {b : UInt8} (h : NameP s) (hb : 97 ≤ b.toNat ∧ b.toNat ≤ 122) : NameP (s ++ ⟨#[b]⟩) ↔ (s.size + 1 ≤ 20 ∧ ∀ x ∈ wordsL, x.toList ≠ (s ++ ⟨#[b]⟩ : ByteArray).toList) := by
  have e : (s ++ ⟨#[b]⟩ : ByteArray).data.toList = s.data.toList ++ [b] := by simp
  have hl := size_of s
  have h0 := (nameB_iff s).2 h
  have hs : (s ++ ⟨#[b]⟩ : ByteArray).size = s.size + 1 := by rw [← size_of, e, List.length_append, hl]; rfl
  constructor
  · intro hn
    exact ⟨by have := hn.1.2; omega, hn.2.2.2⟩
  · rintro ⟨h1, h2⟩
    refine ⟨⟨by omega, by omega⟩, ?_, fun i hi => ?_, h2⟩
    · have h3 := h.2.1
      have h4 := h.1.1
      rw [byt_of _ 0 (by rw [size_of]; omega)] at h3 ⊢
      simp only [e]
      rw [List.getElem_append_left (by omega)]
      exact h3
    · rw [byt_of _ i (by rw [size_of]; exact hi)]
      simp only [e]
      by_cases hi2 : i < s.size
      · rw [List.getElem_append_left (by omega)]
        have := h.2.2.1 i hi2
        rw [byt_of _ i (by omega)] at this
        exact this
      · have : i = s.data.toList.length := by omega
        subst this
        simp
        exact .inl (by omega)

theorem conv_one (w : World) (g : Nat) (hg : g = w.heap.size) (b : UInt8) (z : Int) (hz : z = (b.toNat : Int)) :
    (convert 56 9 (.slice (some ⟨g, 0, none⟩) 1 1)).run Try.prog (w.alloc (.cells #[.int .u8 z] 5)) = .ok (.string ⟨#[b]⟩) (w.alloc (.cells #[.int .u8 z] 5)) := by
  subst hg hz
  refine run_convert_bytes_back _ 56 9 5 ⟨w.heap.size, 0, none⟩ 1 [b] Try.underlying56 Try.underlying5 Try.underlying9 (fun j hj => ?_)
  have : j = 0 := by simp at hj; omega
  subst this
  rw [Addr.add, if_pos rfl, Lib.cell_of_heap (heap_alloc_new w _)]
  rfl

set_option maxHeartbeats 4000000 in
theorem words_walk {StP : World → (Nat → Prop) → Nat → List Tab → Kept → Nat → Prop} (C : StoreC StP) (s : ByteArray) (x y : Int) (w : World) (hs : s.size ≤ 140737488351232) (hx : inR x = true) (hy : inR y = true) :
    Calls Try.prog 6 #[.string s, .int .i64 x, .int .i64 y] w fun e w' => e = .returned (.bool true) ∧ Below w.heap.size w w' := by
  have hx1 : -9223372036854775808 ≤ x ∧ x ≤ 9223372036854775807 := of_decide_eq_true hx
  have hy1 : -9223372036854775808 ≤ y ∧ y ≤ 9223372036854775807 := of_decide_eq_true hy
  clear hx hy
  go_enter Try.func6, Try.ntmps6
  go_wp2_with fail
  refine (ex5_any C _).mono ?_
  rintro e w1 ⟨rfl, hb1⟩
  have E1 := Lib.hid hb1
  clear hb1
  by_cases hx0 : x < 0
  · obtain ⟨i, hi, hi3⟩ := tmod_neg (z := x + 1) (n := 25) (by omega) (by omega)
    by_cases hy0 : y < 0
    · obtain ⟨d, hd, hd3⟩ := tmod_neg (z := y + 1) (n := 26) (by omega) (by omega)
      have hi2 : i < 25 := by omega
      have hd2 : d < 26 := by omega
      obtain ⟨wd, hwd⟩ : ∃ wd, wd = wordsL[i]'(show i < wordsL.length from hi2) := ⟨_, rfl⟩
      have hmem : wd ∈ wordsL := by rw [hwd]; exact List.getElem_mem _
      obtain ⟨b, hb⟩ : ∃ b : UInt8, b = UInt8.ofNat (97 + d) := ⟨_, rfl⟩
      have hbz : (97 + (d : Int)) = (b.toNat : Int) := by rw [hb, UInt8.toNat_ofNat']; omega
      have hb2 : 97 ≤ b.toNat ∧ b.toNat ≤ 122 := by omega
      have c1 : (w1.alloc (.cells (wordsL.map Value.string).toArray 9)).cell? ⟨w1.heap.size, i, none⟩ = some (.string wd) := by
        rw [Lib.cell_of_heap (heap_alloc_new w1 _), hwd]
        simp [List.getElem?_eq_getElem (show i < wordsL.length from hi2)]
      have hconv := conv_one (w1.alloc (.cells (wordsL.map Value.string).toArray 9)) (w1.heap.size + 1) (by simp) b _ hbz
      obtain ⟨W, hW⟩ : ∃ W, W = (w1.alloc (.cells (wordsL.map Value.string).toArray 9)).alloc (.cells #[.int .u8 (97 + (d : Int))] 5) := ⟨_, rfl⟩
      have hcells : ∀ (j : Nat) (x : ByteArray), wordsL[j]? = some x → W.cell? ⟨w1.heap.size, j, none⟩ = some (.string x) := fun j x hj => by
        rw [hW, Lib.cell_of_heap (alloc_old (alloc_new rfl))]
        simp [hj]
      have EW := Lib.hid (show Below w.heap.size w W from by rw [hW]; exact E1.out.trans (((Below.refl _ _).alloc (Nat.le_refl _) _).alloc (by simp) _ |>.mono E1.out.size))
      have HCELL := Lib.hid hcells
      have HWD := Lib.hid (And.intro hmem (And.intro hwd hb))
      have HB := Lib.hid hb2
      have HW := Lib.hid hW
      simp only [wordsL, List.map_cons, List.map_nil] at c1 hconv
      obtain ⟨LG, hLG⟩ : ∃ LG : ByteArray, LG = s ++ (⟨#[b]⟩ : ByteArray) := ⟨_, rfl⟩
      have hadd : ∀ W, (Op.stringOp .add s ⟨#[b]⟩).run Try.prog W = .ok (.string LG) W := fun W => by rw [hLG]; exact run_string_add_sum W s _ (by show s.size + 1 ≤ _; omega)
      obtain ⟨UN, hUN⟩ : ∃ UN : ByteArray, UN = wd ++ (⟨#[95]⟩ : ByteArray) := ⟨_, rfl⟩
      have hadd2 : ∀ W, (Op.stringOp .add wd ⟨#[95]⟩).run Try.prog W = .ok (.string UN) W := fun W => by rw [hUN]; exact run_string_add_sum W wd _ (by have := (words_under wd hmem).2; show wd.size + 1 ≤ _; omega)
      have HUN := Lib.hid (show NameP UN from by rw [hUN]; exact (words_under wd hmem).1)
      clear hUN
      have hLGs : LG.size = s.size + 1 := by rw [hLG, ByteArray.size_append]; rfl
      have HLG := Lib.hid hLG
      have HLS := Lib.hid hLGs
      clear hLG hLGs
      clear hcells hmem hwd hb hb2 hW hbz
      go_wp2_with fail
      clear hconv c1 hadd
      go_loopw [12, 13] (fun vb vi wr => ∃ (i : Nat) (bw : Bool), vb = .bool bw ∧ vi = .int .i64 i ∧ i ≤ 25 ∧ Hid (bw = true ↔ ∃ (j : Nat) (z : ByteArray), j < i ∧ wordsL[j]? = some z ∧ z.toList = LG.toList) ∧ W = wr) (fun _ vi _ => 25 - (intOf vi).toNat)
      case atStart => exact ⟨0, false, rfl, rfl, Nat.zero_le _, ⟨fun h => (by cases h), fun ⟨j, z, h, _⟩ => absurd h (Nat.not_lt_zero _)⟩, HW.out⟩
      case round =>
        obtain ⟨k, bw, rfl, rfl, hk, HBW, rfl⟩ := hrel
        by_cases hk2 : k < 25
        · obtain ⟨z, hz⟩ : ∃ z, wordsL[k]? = some z := ⟨_, List.getElem?_eq_getElem (show k < wordsL.length from hk2)⟩
          have c0 := HCELL.out k z hz
          have HZ := Lib.hid hz
          clear hz
          have nx : ∀ b' : Bool, (b' = true ↔ (bw = true ∨ z.toList = LG.toList)) → Hid (b' = true ↔ ∃ (j : Nat) (z : ByteArray), j < k + 1 ∧ wordsL[j]? = some z ∧ z.toList = LG.toList) := fun b' hb' => by
            show b' = true ↔ _
            rw [hb', HBW.out]
            constructor
            · rintro (⟨j, z', h1, h2, h3⟩ | h)
              · exact ⟨j, z', by omega, h2, h3⟩
              · exact ⟨k, z, by omega, HZ.out, h⟩
            · rintro ⟨j, z', h1, h2, h3⟩
              by_cases e : j = k
              · subst e
                rw [HZ.out] at h2
                cases h2
                exact .inr h3
              · exact .inl ⟨j, z', by omega, h2, h3⟩
          have NX := Lib.hid nx
          clear nx
          cases bw with
          | true =>
            go_wp2
            go_roundw
            case rel => exact ⟨k + 1, true, rfl, by go_num, hk2, NX.out true (by simp), by trivial⟩
            case measure => simp [intOf] <;> omega
          | false =>
            by_cases ez : z.toList = LG.toList
            · have eb : (z.toList == LG.toList) = true := by simpa using ez
              have EZ := Lib.hid ez
              clear ez
              go_wp2
              go_roundw
              case rel => exact ⟨k + 1, true, rfl, by go_num, hk2, NX.out true (by simpa using EZ.out), by trivial⟩
              case measure => simp [intOf] <;> omega
            · have eb : (z.toList == LG.toList) = false := by simpa using ez
              have EZ := Lib.hid ez
              clear ez
              go_wp2
              go_roundw
              case rel => exact ⟨k + 1, false, rfl, by go_num, hk2, NX.out false (by simpa using EZ.out), by trivial⟩
              case measure => simp [intOf] <;> omega
        · have hk25 : k = 25 := by omega
          subst hk25
          have hall : Hid (bw = false ↔ ∀ z ∈ wordsL, z.toList ≠ LG.toList) := by
            show bw = false ↔ _
            have h := HBW.out
            constructor
            · intro hb z hz e
              obtain ⟨j, hj, rfl⟩ := List.getElem_of_mem hz
              have hj2 : j < 25 := hj
              have := h.2 ⟨j, _, hj2, List.getElem?_eq_getElem hj, e⟩
              rw [hb] at this
              cases this
            · intro hn
              cases bw with
              | false => rfl
              | true =>
                obtain ⟨j, z, _, h2, h3⟩ := h.1 rfl
                exact absurd h3 (hn z (List.mem_of_getElem? h2))
          clear HBW
          go_wp2_with fail
          refine (C.name wd W (by have := (words_under wd HWD.out.1).2; omega)).mono ?_
          rintro e w5 ⟨⟨b5, rfl, hn5⟩, hb5⟩
          have h5 : b5 = false := by
            cases b5
            · rfl
            · exact absurd (hn5.1 rfl) (name_word HWD.out.1)
          have E5 := Lib.hid (EW.out.trans (hb5.mono EW.out.size))
          subst h5
          clear hn5 hb5
          go_wp2_with fail
          refine (C.name UN w5 (by have := HUN.out.1; omega)).mono ?_
          rintro e w6 ⟨⟨b6, rfl, hn6⟩, hb6⟩
          have h6 : b6 = true := hn6.2 HUN.out
          have E6 := Lib.hid (E5.out.trans (hb6.mono E5.out.size))
          subst h6
          clear hn6 hb6 E5
          go_wp2_with fail
          refine (C.name s w6 (by omega)).mono ?_
          rintro e w7 ⟨⟨b7, rfl, hn7⟩, hb7⟩
          have E7 := Lib.hid (E6.out.trans (hb7.mono E6.out.size))
          have HN7 := Lib.hid hn7
          clear hn7 hb7 E6
          cases b7 with
          | false =>
            go_wp2
            go_ret
            exact ⟨rfl, E7.out⟩
          | true =>
            go_wp2_with fail
            refine (C.name LG w7 (by have := HLS.out; omega)).mono ?_
            rintro e w8 ⟨⟨b8, rfl, hn8⟩, hb8⟩
            have E8 := Lib.hid (E7.out.trans (hb8.mono E7.out.size))
            have h8 : b8 = (decide ((LG.size : Int) ≤ 20) && !bw) := by
              have hs7 : NameP s := HN7.out.1 (by simp)
              have hm := name_more (b := b) hs7 HB.out
              rw [← HLG.out] at hm
              have hz := HLS.out
              have ha := hall.out
              refine Tells.one (P := NameP LG) hn8 ?_
              rw [hm, ← ha, Bool.and_eq_true, decide_eq_true_iff, Bool.not_eq_true']
              constructor
              · rintro ⟨h1, h2⟩; exact ⟨by omega, h2⟩
              · rintro ⟨h1, h2⟩; exact ⟨by omega, h2⟩
            clear hn8 hb8 E7
            by_cases hl : (LG.size : Int) ≤ 20
            · rw [decide_eq_true hl, Bool.true_and] at h8
              subst h8
              go_wp2
              go_ret
              exact ⟨rfl, E8.out⟩
            · rw [decide_eq_false hl, Bool.false_and] at h8
              subst h8
              go_wp2
              go_ret
              exact ⟨rfl, E8.out⟩
    · obtain ⟨d, hd⟩ : ∃ d : Nat, y % 26 = (d : Int) := ⟨(y % 26).toNat, by omega⟩
      have hi2 : i < 25 := by omega
      have hd2 : d < 26 := by omega
      obtain ⟨wd, hwd⟩ : ∃ wd, wd = wordsL[i]'(show i < wordsL.length from hi2) := ⟨_, rfl⟩
      have hmem : wd ∈ wordsL := by rw [hwd]; exact List.getElem_mem _
      obtain ⟨b, hb⟩ : ∃ b : UInt8, b = UInt8.ofNat (97 + d) := ⟨_, rfl⟩
      have hbz : (97 + (d : Int)) = (b.toNat : Int) := by rw [hb, UInt8.toNat_ofNat']; omega
      have hb2 : 97 ≤ b.toNat ∧ b.toNat ≤ 122 := by omega
      have c1 : (w1.alloc (.cells (wordsL.map Value.string).toArray 9)).cell? ⟨w1.heap.size, i, none⟩ = some (.string wd) := by
        rw [Lib.cell_of_heap (heap_alloc_new w1 _), hwd]
        simp [List.getElem?_eq_getElem (show i < wordsL.length from hi2)]
      have hconv := conv_one (w1.alloc (.cells (wordsL.map Value.string).toArray 9)) (w1.heap.size + 1) (by simp) b _ hbz
      obtain ⟨W, hW⟩ : ∃ W, W = (w1.alloc (.cells (wordsL.map Value.string).toArray 9)).alloc (.cells #[.int .u8 (97 + (d : Int))] 5) := ⟨_, rfl⟩
      have hcells : ∀ (j : Nat) (x : ByteArray), wordsL[j]? = some x → W.cell? ⟨w1.heap.size, j, none⟩ = some (.string x) := fun j x hj => by
        rw [hW, Lib.cell_of_heap (alloc_old (alloc_new rfl))]
        simp [hj]
      have EW := Lib.hid (show Below w.heap.size w W from by rw [hW]; exact E1.out.trans (((Below.refl _ _).alloc (Nat.le_refl _) _).alloc (by simp) _ |>.mono E1.out.size))
      have HCELL := Lib.hid hcells
      have HWD := Lib.hid (And.intro hmem (And.intro hwd hb))
      have HB := Lib.hid hb2
      have HW := Lib.hid hW
      simp only [wordsL, List.map_cons, List.map_nil] at c1 hconv
      obtain ⟨LG, hLG⟩ : ∃ LG : ByteArray, LG = s ++ (⟨#[b]⟩ : ByteArray) := ⟨_, rfl⟩
      have hadd : ∀ W, (Op.stringOp .add s ⟨#[b]⟩).run Try.prog W = .ok (.string LG) W := fun W => by rw [hLG]; exact run_string_add_sum W s _ (by show s.size + 1 ≤ _; omega)
      obtain ⟨UN, hUN⟩ : ∃ UN : ByteArray, UN = wd ++ (⟨#[95]⟩ : ByteArray) := ⟨_, rfl⟩
      have hadd2 : ∀ W, (Op.stringOp .add wd ⟨#[95]⟩).run Try.prog W = .ok (.string UN) W := fun W => by rw [hUN]; exact run_string_add_sum W wd _ (by have := (words_under wd hmem).2; show wd.size + 1 ≤ _; omega)
      have HUN := Lib.hid (show NameP UN from by rw [hUN]; exact (words_under wd hmem).1)
      clear hUN
      have hLGs : LG.size = s.size + 1 := by rw [hLG, ByteArray.size_append]; rfl
      have HLG := Lib.hid hLG
      have HLS := Lib.hid hLGs
      clear hLG hLGs
      clear hcells hmem hwd hb hb2 hW hbz
      go_wp2_with fail
      clear hconv c1 hadd
      go_loopw [12, 13] (fun vb vi wr => ∃ (i : Nat) (bw : Bool), vb = .bool bw ∧ vi = .int .i64 i ∧ i ≤ 25 ∧ Hid (bw = true ↔ ∃ (j : Nat) (z : ByteArray), j < i ∧ wordsL[j]? = some z ∧ z.toList = LG.toList) ∧ W = wr) (fun _ vi _ => 25 - (intOf vi).toNat)
      case atStart => exact ⟨0, false, rfl, rfl, Nat.zero_le _, ⟨fun h => (by cases h), fun ⟨j, z, h, _⟩ => absurd h (Nat.not_lt_zero _)⟩, HW.out⟩
      case round =>
        obtain ⟨k, bw, rfl, rfl, hk, HBW, rfl⟩ := hrel
        by_cases hk2 : k < 25
        · obtain ⟨z, hz⟩ : ∃ z, wordsL[k]? = some z := ⟨_, List.getElem?_eq_getElem (show k < wordsL.length from hk2)⟩
          have c0 := HCELL.out k z hz
          have HZ := Lib.hid hz
          clear hz
          have nx : ∀ b' : Bool, (b' = true ↔ (bw = true ∨ z.toList = LG.toList)) → Hid (b' = true ↔ ∃ (j : Nat) (z : ByteArray), j < k + 1 ∧ wordsL[j]? = some z ∧ z.toList = LG.toList) := fun b' hb' => by
            show b' = true ↔ _
            rw [hb', HBW.out]
            constructor
            · rintro (⟨j, z', h1, h2, h3⟩ | h)
              · exact ⟨j, z', by omega, h2, h3⟩
              · exact ⟨k, z, by omega, HZ.out, h⟩
            · rintro ⟨j, z', h1, h2, h3⟩
              by_cases e : j = k
              · subst e
                rw [HZ.out] at h2
                cases h2
                exact .inr h3
              · exact .inl ⟨j, z', by omega, h2, h3⟩
          have NX := Lib.hid nx
          clear nx
          cases bw with
          | true =>
            go_wp2
            go_roundw
            case rel => exact ⟨k + 1, true, rfl, by go_num, hk2, NX.out true (by simp), by trivial⟩
            case measure => simp [intOf] <;> omega
          | false =>
            by_cases ez : z.toList = LG.toList
            · have eb : (z.toList == LG.toList) = true := by simpa using ez
              have EZ := Lib.hid ez
              clear ez
              go_wp2
              go_roundw
              case rel => exact ⟨k + 1, true, rfl, by go_num, hk2, NX.out true (by simpa using EZ.out), by trivial⟩
              case measure => simp [intOf] <;> omega
            · have eb : (z.toList == LG.toList) = false := by simpa using ez
              have EZ := Lib.hid ez
              clear ez
              go_wp2
              go_roundw
              case rel => exact ⟨k + 1, false, rfl, by go_num, hk2, NX.out false (by simpa using EZ.out), by trivial⟩
              case measure => simp [intOf] <;> omega
        · have hk25 : k = 25 := by omega
          subst hk25
          have hall : Hid (bw = false ↔ ∀ z ∈ wordsL, z.toList ≠ LG.toList) := by
            show bw = false ↔ _
            have h := HBW.out
            constructor
            · intro hb z hz e
              obtain ⟨j, hj, rfl⟩ := List.getElem_of_mem hz
              have hj2 : j < 25 := hj
              have := h.2 ⟨j, _, hj2, List.getElem?_eq_getElem hj, e⟩
              rw [hb] at this
              cases this
            · intro hn
              cases bw with
              | false => rfl
              | true =>
                obtain ⟨j, z, _, h2, h3⟩ := h.1 rfl
                exact absurd h3 (hn z (List.mem_of_getElem? h2))
          clear HBW
          go_wp2_with fail
          refine (C.name wd W (by have := (words_under wd HWD.out.1).2; omega)).mono ?_
          rintro e w5 ⟨⟨b5, rfl, hn5⟩, hb5⟩
          have h5 : b5 = false := by
            cases b5
            · rfl
            · exact absurd (hn5.1 rfl) (name_word HWD.out.1)
          have E5 := Lib.hid (EW.out.trans (hb5.mono EW.out.size))
          subst h5
          clear hn5 hb5
          go_wp2_with fail
          refine (C.name UN w5 (by have := HUN.out.1; omega)).mono ?_
          rintro e w6 ⟨⟨b6, rfl, hn6⟩, hb6⟩
          have h6 : b6 = true := hn6.2 HUN.out
          have E6 := Lib.hid (E5.out.trans (hb6.mono E5.out.size))
          subst h6
          clear hn6 hb6 E5
          go_wp2_with fail
          refine (C.name s w6 (by omega)).mono ?_
          rintro e w7 ⟨⟨b7, rfl, hn7⟩, hb7⟩
          have E7 := Lib.hid (E6.out.trans (hb7.mono E6.out.size))
          have HN7 := Lib.hid hn7
          clear hn7 hb7 E6
          cases b7 with
          | false =>
            go_wp2
            go_ret
            exact ⟨rfl, E7.out⟩
          | true =>
            go_wp2_with fail
            refine (C.name LG w7 (by have := HLS.out; omega)).mono ?_
            rintro e w8 ⟨⟨b8, rfl, hn8⟩, hb8⟩
            have E8 := Lib.hid (E7.out.trans (hb8.mono E7.out.size))
            have h8 : b8 = (decide ((LG.size : Int) ≤ 20) && !bw) := by
              have hs7 : NameP s := HN7.out.1 (by simp)
              have hm := name_more (b := b) hs7 HB.out
              rw [← HLG.out] at hm
              have hz := HLS.out
              have ha := hall.out
              refine Tells.one (P := NameP LG) hn8 ?_
              rw [hm, ← ha, Bool.and_eq_true, decide_eq_true_iff, Bool.not_eq_true']
              constructor
              · rintro ⟨h1, h2⟩; exact ⟨by omega, h2⟩
              · rintro ⟨h1, h2⟩; exact ⟨by omega, h2⟩
            clear hn8 hb8 E7
            by_cases hl : (LG.size : Int) ≤ 20
            · rw [decide_eq_true hl, Bool.true_and] at h8
              subst h8
              go_wp2
              go_ret
              exact ⟨rfl, E8.out⟩
            · rw [decide_eq_false hl, Bool.false_and] at h8
              subst h8
              go_wp2
              go_ret
              exact ⟨rfl, E8.out⟩
  · obtain ⟨i, hi⟩ : ∃ i : Nat, x % 25 = (i : Int) := ⟨(x % 25).toNat, by omega⟩
    by_cases hy0 : y < 0
    · obtain ⟨d, hd, hd3⟩ := tmod_neg (z := y + 1) (n := 26) (by omega) (by omega)
      have hi2 : i < 25 := by omega
      have hd2 : d < 26 := by omega
      obtain ⟨wd, hwd⟩ : ∃ wd, wd = wordsL[i]'(show i < wordsL.length from hi2) := ⟨_, rfl⟩
      have hmem : wd ∈ wordsL := by rw [hwd]; exact List.getElem_mem _
      obtain ⟨b, hb⟩ : ∃ b : UInt8, b = UInt8.ofNat (97 + d) := ⟨_, rfl⟩
      have hbz : (97 + (d : Int)) = (b.toNat : Int) := by rw [hb, UInt8.toNat_ofNat']; omega
      have hb2 : 97 ≤ b.toNat ∧ b.toNat ≤ 122 := by omega
      have c1 : (w1.alloc (.cells (wordsL.map Value.string).toArray 9)).cell? ⟨w1.heap.size, i, none⟩ = some (.string wd) := by
        rw [Lib.cell_of_heap (heap_alloc_new w1 _), hwd]
        simp [List.getElem?_eq_getElem (show i < wordsL.length from hi2)]
      have hconv := conv_one (w1.alloc (.cells (wordsL.map Value.string).toArray 9)) (w1.heap.size + 1) (by simp) b _ hbz
      obtain ⟨W, hW⟩ : ∃ W, W = (w1.alloc (.cells (wordsL.map Value.string).toArray 9)).alloc (.cells #[.int .u8 (97 + (d : Int))] 5) := ⟨_, rfl⟩
      have hcells : ∀ (j : Nat) (x : ByteArray), wordsL[j]? = some x → W.cell? ⟨w1.heap.size, j, none⟩ = some (.string x) := fun j x hj => by
        rw [hW, Lib.cell_of_heap (alloc_old (alloc_new rfl))]
        simp [hj]
      have EW := Lib.hid (show Below w.heap.size w W from by rw [hW]; exact E1.out.trans (((Below.refl _ _).alloc (Nat.le_refl _) _).alloc (by simp) _ |>.mono E1.out.size))
      have HCELL := Lib.hid hcells
      have HWD := Lib.hid (And.intro hmem (And.intro hwd hb))
      have HB := Lib.hid hb2
      have HW := Lib.hid hW
      simp only [wordsL, List.map_cons, List.map_nil] at c1 hconv
      obtain ⟨LG, hLG⟩ : ∃ LG : ByteArray, LG = s ++ (⟨#[b]⟩ : ByteArray) := ⟨_, rfl⟩
      have hadd : ∀ W, (Op.stringOp .add s ⟨#[b]⟩).run Try.prog W = .ok (.string LG) W := fun W => by rw [hLG]; exact run_string_add_sum W s _ (by show s.size + 1 ≤ _; omega)
      obtain ⟨UN, hUN⟩ : ∃ UN : ByteArray, UN = wd ++ (⟨#[95]⟩ : ByteArray) := ⟨_, rfl⟩
      have hadd2 : ∀ W, (Op.stringOp .add wd ⟨#[95]⟩).run Try.prog W = .ok (.string UN) W := fun W => by rw [hUN]; exact run_string_add_sum W wd _ (by have := (words_under wd hmem).2; show wd.size + 1 ≤ _; omega)
      have HUN := Lib.hid (show NameP UN from by rw [hUN]; exact (words_under wd hmem).1)
      clear hUN
      have hLGs : LG.size = s.size + 1 := by rw [hLG, ByteArray.size_append]; rfl
      have HLG := Lib.hid hLG
      have HLS := Lib.hid hLGs
      clear hLG hLGs
      clear hcells hmem hwd hb hb2 hW hbz
      go_wp2_with fail
      clear hconv c1 hadd
      go_loopw [12, 13] (fun vb vi wr => ∃ (i : Nat) (bw : Bool), vb = .bool bw ∧ vi = .int .i64 i ∧ i ≤ 25 ∧ Hid (bw = true ↔ ∃ (j : Nat) (z : ByteArray), j < i ∧ wordsL[j]? = some z ∧ z.toList = LG.toList) ∧ W = wr) (fun _ vi _ => 25 - (intOf vi).toNat)
      case atStart => exact ⟨0, false, rfl, rfl, Nat.zero_le _, ⟨fun h => (by cases h), fun ⟨j, z, h, _⟩ => absurd h (Nat.not_lt_zero _)⟩, HW.out⟩
      case round =>
        obtain ⟨k, bw, rfl, rfl, hk, HBW, rfl⟩ := hrel
        by_cases hk2 : k < 25
        · obtain ⟨z, hz⟩ : ∃ z, wordsL[k]? = some z := ⟨_, List.getElem?_eq_getElem (show k < wordsL.length from hk2)⟩
          have c0 := HCELL.out k z hz
          have HZ := Lib.hid hz
          clear hz
          have nx : ∀ b' : Bool, (b' = true ↔ (bw = true ∨ z.toList = LG.toList)) → Hid (b' = true ↔ ∃ (j : Nat) (z : ByteArray), j < k + 1 ∧ wordsL[j]? = some z ∧ z.toList = LG.toList) := fun b' hb' => by
            show b' = true ↔ _
            rw [hb', HBW.out]
            constructor
            · rintro (⟨j, z', h1, h2, h3⟩ | h)
              · exact ⟨j, z', by omega, h2, h3⟩
              · exact ⟨k, z, by omega, HZ.out, h⟩
            · rintro ⟨j, z', h1, h2, h3⟩
              by_cases e : j = k
              · subst e
                rw [HZ.out] at h2
                cases h2
                exact .inr h3
              · exact .inl ⟨j, z', by omega, h2, h3⟩
          have NX := Lib.hid nx
          clear nx
          cases bw with
          | true =>
            go_wp2
            go_roundw
            case rel => exact ⟨k + 1, true, rfl, by go_num, hk2, NX.out true (by simp), by trivial⟩
            case measure => simp [intOf] <;> omega
          | false =>
            by_cases ez : z.toList = LG.toList
            · have eb : (z.toList == LG.toList) = true := by simpa using ez
              have EZ := Lib.hid ez
              clear ez
              go_wp2
              go_roundw
              case rel => exact ⟨k + 1, true, rfl, by go_num, hk2, NX.out true (by simpa using EZ.out), by trivial⟩
              case measure => simp [intOf] <;> omega
            · have eb : (z.toList == LG.toList) = false := by simpa using ez
              have EZ := Lib.hid ez
              clear ez
              go_wp2
              go_roundw
              case rel => exact ⟨k + 1, false, rfl, by go_num, hk2, NX.out false (by simpa using EZ.out), by trivial⟩
              case measure => simp [intOf] <;> omega
        · have hk25 : k = 25 := by omega
          subst hk25
          have hall : Hid (bw = false ↔ ∀ z ∈ wordsL, z.toList ≠ LG.toList) := by
            show bw = false ↔ _
            have h := HBW.out
            constructor
            · intro hb z hz e
              obtain ⟨j, hj, rfl⟩ := List.getElem_of_mem hz
              have hj2 : j < 25 := hj
              have := h.2 ⟨j, _, hj2, List.getElem?_eq_getElem hj, e⟩
              rw [hb] at this
              cases this
            · intro hn
              cases bw with
              | false => rfl
              | true =>
                obtain ⟨j, z, _, h2, h3⟩ := h.1 rfl
                exact absurd h3 (hn z (List.mem_of_getElem? h2))
          clear HBW
          go_wp2_with fail
          refine (C.name wd W (by have := (words_under wd HWD.out.1).2; omega)).mono ?_
          rintro e w5 ⟨⟨b5, rfl, hn5⟩, hb5⟩
          have h5 : b5 = false := by
            cases b5
            · rfl
            · exact absurd (hn5.1 rfl) (name_word HWD.out.1)
          have E5 := Lib.hid (EW.out.trans (hb5.mono EW.out.size))
          subst h5
          clear hn5 hb5
          go_wp2_with fail
          refine (C.name UN w5 (by have := HUN.out.1; omega)).mono ?_
          rintro e w6 ⟨⟨b6, rfl, hn6⟩, hb6⟩
          have h6 : b6 = true := hn6.2 HUN.out
          have E6 := Lib.hid (E5.out.trans (hb6.mono E5.out.size))
          subst h6
          clear hn6 hb6 E5
          go_wp2_with fail
          refine (C.name s w6 (by omega)).mono ?_
          rintro e w7 ⟨⟨b7, rfl, hn7⟩, hb7⟩
          have E7 := Lib.hid (E6.out.trans (hb7.mono E6.out.size))
          have HN7 := Lib.hid hn7
          clear hn7 hb7 E6
          cases b7 with
          | false =>
            go_wp2
            go_ret
            exact ⟨rfl, E7.out⟩
          | true =>
            go_wp2_with fail
            refine (C.name LG w7 (by have := HLS.out; omega)).mono ?_
            rintro e w8 ⟨⟨b8, rfl, hn8⟩, hb8⟩
            have E8 := Lib.hid (E7.out.trans (hb8.mono E7.out.size))
            have h8 : b8 = (decide ((LG.size : Int) ≤ 20) && !bw) := by
              have hs7 : NameP s := HN7.out.1 (by simp)
              have hm := name_more (b := b) hs7 HB.out
              rw [← HLG.out] at hm
              have hz := HLS.out
              have ha := hall.out
              refine Tells.one (P := NameP LG) hn8 ?_
              rw [hm, ← ha, Bool.and_eq_true, decide_eq_true_iff, Bool.not_eq_true']
              constructor
              · rintro ⟨h1, h2⟩; exact ⟨by omega, h2⟩
              · rintro ⟨h1, h2⟩; exact ⟨by omega, h2⟩
            clear hn8 hb8 E7
            by_cases hl : (LG.size : Int) ≤ 20
            · rw [decide_eq_true hl, Bool.true_and] at h8
              subst h8
              go_wp2
              go_ret
              exact ⟨rfl, E8.out⟩
            · rw [decide_eq_false hl, Bool.false_and] at h8
              subst h8
              go_wp2
              go_ret
              exact ⟨rfl, E8.out⟩
    · obtain ⟨d, hd⟩ : ∃ d : Nat, y % 26 = (d : Int) := ⟨(y % 26).toNat, by omega⟩
      have hi2 : i < 25 := by omega
      have hd2 : d < 26 := by omega
      obtain ⟨wd, hwd⟩ : ∃ wd, wd = wordsL[i]'(show i < wordsL.length from hi2) := ⟨_, rfl⟩
      have hmem : wd ∈ wordsL := by rw [hwd]; exact List.getElem_mem _
      obtain ⟨b, hb⟩ : ∃ b : UInt8, b = UInt8.ofNat (97 + d) := ⟨_, rfl⟩
      have hbz : (97 + (d : Int)) = (b.toNat : Int) := by rw [hb, UInt8.toNat_ofNat']; omega
      have hb2 : 97 ≤ b.toNat ∧ b.toNat ≤ 122 := by omega
      have c1 : (w1.alloc (.cells (wordsL.map Value.string).toArray 9)).cell? ⟨w1.heap.size, i, none⟩ = some (.string wd) := by
        rw [Lib.cell_of_heap (heap_alloc_new w1 _), hwd]
        simp [List.getElem?_eq_getElem (show i < wordsL.length from hi2)]
      have hconv := conv_one (w1.alloc (.cells (wordsL.map Value.string).toArray 9)) (w1.heap.size + 1) (by simp) b _ hbz
      obtain ⟨W, hW⟩ : ∃ W, W = (w1.alloc (.cells (wordsL.map Value.string).toArray 9)).alloc (.cells #[.int .u8 (97 + (d : Int))] 5) := ⟨_, rfl⟩
      have hcells : ∀ (j : Nat) (x : ByteArray), wordsL[j]? = some x → W.cell? ⟨w1.heap.size, j, none⟩ = some (.string x) := fun j x hj => by
        rw [hW, Lib.cell_of_heap (alloc_old (alloc_new rfl))]
        simp [hj]
      have EW := Lib.hid (show Below w.heap.size w W from by rw [hW]; exact E1.out.trans (((Below.refl _ _).alloc (Nat.le_refl _) _).alloc (by simp) _ |>.mono E1.out.size))
      have HCELL := Lib.hid hcells
      have HWD := Lib.hid (And.intro hmem (And.intro hwd hb))
      have HB := Lib.hid hb2
      have HW := Lib.hid hW
      simp only [wordsL, List.map_cons, List.map_nil] at c1 hconv
      obtain ⟨LG, hLG⟩ : ∃ LG : ByteArray, LG = s ++ (⟨#[b]⟩ : ByteArray) := ⟨_, rfl⟩
      have hadd : ∀ W, (Op.stringOp .add s ⟨#[b]⟩).run Try.prog W = .ok (.string LG) W := fun W => by rw [hLG]; exact run_string_add_sum W s _ (by show s.size + 1 ≤ _; omega)
      obtain ⟨UN, hUN⟩ : ∃ UN : ByteArray, UN = wd ++ (⟨#[95]⟩ : ByteArray) := ⟨_, rfl⟩
      have hadd2 : ∀ W, (Op.stringOp .add wd ⟨#[95]⟩).run Try.prog W = .ok (.string UN) W := fun W => by rw [hUN]; exact run_string_add_sum W wd _ (by have := (words_under wd hmem).2; show wd.size + 1 ≤ _; omega)
      have HUN := Lib.hid (show NameP UN from by rw [hUN]; exact (words_under wd hmem).1)
      clear hUN
      have hLGs : LG.size = s.size + 1 := by rw [hLG, ByteArray.size_append]; rfl
      have HLG := Lib.hid hLG
      have HLS := Lib.hid hLGs
      clear hLG hLGs
      clear hcells hmem hwd hb hb2 hW hbz
      go_wp2_with fail
      clear hconv c1 hadd
      go_loopw [12, 13] (fun vb vi wr => ∃ (i : Nat) (bw : Bool), vb = .bool bw ∧ vi = .int .i64 i ∧ i ≤ 25 ∧ Hid (bw = true ↔ ∃ (j : Nat) (z : ByteArray), j < i ∧ wordsL[j]? = some z ∧ z.toList = LG.toList) ∧ W = wr) (fun _ vi _ => 25 - (intOf vi).toNat)
      case atStart => exact ⟨0, false, rfl, rfl, Nat.zero_le _, ⟨fun h => (by cases h), fun ⟨j, z, h, _⟩ => absurd h (Nat.not_lt_zero _)⟩, HW.out⟩
      case round =>
        obtain ⟨k, bw, rfl, rfl, hk, HBW, rfl⟩ := hrel
        by_cases hk2 : k < 25
        · obtain ⟨z, hz⟩ : ∃ z, wordsL[k]? = some z := ⟨_, List.getElem?_eq_getElem (show k < wordsL.length from hk2)⟩
          have c0 := HCELL.out k z hz
          have HZ := Lib.hid hz
          clear hz
          have nx : ∀ b' : Bool, (b' = true ↔ (bw = true ∨ z.toList = LG.toList)) → Hid (b' = true ↔ ∃ (j : Nat) (z : ByteArray), j < k + 1 ∧ wordsL[j]? = some z ∧ z.toList = LG.toList) := fun b' hb' => by
            show b' = true ↔ _
            rw [hb', HBW.out]
            constructor
            · rintro (⟨j, z', h1, h2, h3⟩ | h)
              · exact ⟨j, z', by omega, h2, h3⟩
              · exact ⟨k, z, by omega, HZ.out, h⟩
            · rintro ⟨j, z', h1, h2, h3⟩
              by_cases e : j = k
              · subst e
                rw [HZ.out] at h2
                cases h2
                exact .inr h3
              · exact .inl ⟨j, z', by omega, h2, h3⟩
          have NX := Lib.hid nx
          clear nx
          cases bw with
          | true =>
            go_wp2
            go_roundw
            case rel => exact ⟨k + 1, true, rfl, by go_num, hk2, NX.out true (by simp), by trivial⟩
            case measure => simp [intOf] <;> omega
          | false =>
            by_cases ez : z.toList = LG.toList
            · have eb : (z.toList == LG.toList) = true := by simpa using ez
              have EZ := Lib.hid ez
              clear ez
              go_wp2
              go_roundw
              case rel => exact ⟨k + 1, true, rfl, by go_num, hk2, NX.out true (by simpa using EZ.out), by trivial⟩
              case measure => simp [intOf] <;> omega
            · have eb : (z.toList == LG.toList) = false := by simpa using ez
              have EZ := Lib.hid ez
              clear ez
              go_wp2
              go_roundw
              case rel => exact ⟨k + 1, false, rfl, by go_num, hk2, NX.out false (by simpa using EZ.out), by trivial⟩
              case measure => simp [intOf] <;> omega
        · have hk25 : k = 25 := by omega
          subst hk25
          have hall : Hid (bw = false ↔ ∀ z ∈ wordsL, z.toList ≠ LG.toList) := by
            show bw = false ↔ _
            have h := HBW.out
            constructor
            · intro hb z hz e
              obtain ⟨j, hj, rfl⟩ := List.getElem_of_mem hz
              have hj2 : j < 25 := hj
              have := h.2 ⟨j, _, hj2, List.getElem?_eq_getElem hj, e⟩
              rw [hb] at this
              cases this
            · intro hn
              cases bw with
              | false => rfl
              | true =>
                obtain ⟨j, z, _, h2, h3⟩ := h.1 rfl
                exact absurd h3 (hn z (List.mem_of_getElem? h2))
          clear HBW
          go_wp2_with fail
          refine (C.name wd W (by have := (words_under wd HWD.out.1).2; omega)).mono ?_
          rintro e w5 ⟨⟨b5, rfl, hn5⟩, hb5⟩
          have h5 : b5 = false := by
            cases b5
            · rfl
            · exact absurd (hn5.1 rfl) (name_word HWD.out.1)
          have E5 := Lib.hid (EW.out.trans (hb5.mono EW.out.size))
          subst h5
          clear hn5 hb5
          go_wp2_with fail
          refine (C.name UN w5 (by have := HUN.out.1; omega)).mono ?_
          rintro e w6 ⟨⟨b6, rfl, hn6⟩, hb6⟩
          have h6 : b6 = true := hn6.2 HUN.out
          have E6 := Lib.hid (E5.out.trans (hb6.mono E5.out.size))
          subst h6
          clear hn6 hb6 E5
          go_wp2_with fail
          refine (C.name s w6 (by omega)).mono ?_
          rintro e w7 ⟨⟨b7, rfl, hn7⟩, hb7⟩
          have E7 := Lib.hid (E6.out.trans (hb7.mono E6.out.size))
          have HN7 := Lib.hid hn7
          clear hn7 hb7 E6
          cases b7 with
          | false =>
            go_wp2
            go_ret
            exact ⟨rfl, E7.out⟩
          | true =>
            go_wp2_with fail
            refine (C.name LG w7 (by have := HLS.out; omega)).mono ?_
            rintro e w8 ⟨⟨b8, rfl, hn8⟩, hb8⟩
            have E8 := Lib.hid (E7.out.trans (hb8.mono E7.out.size))
            have h8 : b8 = (decide ((LG.size : Int) ≤ 20) && !bw) := by
              have hs7 : NameP s := HN7.out.1 (by simp)
              have hm := name_more (b := b) hs7 HB.out
              rw [← HLG.out] at hm
              have hz := HLS.out
              have ha := hall.out
              refine Tells.one (P := NameP LG) hn8 ?_
              rw [hm, ← ha, Bool.and_eq_true, decide_eq_true_iff, Bool.not_eq_true']
              constructor
              · rintro ⟨h1, h2⟩; exact ⟨by omega, h2⟩
              · rintro ⟨h1, h2⟩; exact ⟨by omega, h2⟩
            clear hn8 hb8 E7
            by_cases hl : (LG.size : Int) ≤ 20
            · rw [decide_eq_true hl, Bool.true_and] at h8
              subst h8
              go_wp2
              go_ret
              exact ⟨rfl, E8.out⟩
            · rw [decide_eq_false hl, Bool.false_and] at h8
              subst h8
              go_wp2
              go_ret
              exact ⟨rfl, E8.out⟩

/- FRAME -/

set_option maxRecDepth 100000 in
theorem storeWords_lifted (os : Os) (started : os.Started) (H : Type) (enc : TypeId × Value → H) :
    ReturnsInHanded {} Try.checked os 6 .any (Rows.storeWordsSpec.pre6 enc Try.prog Try.f6 Rows.storeWordsRow.domain false) (Rows.storeWordsSpec.post enc Try.prog Try.f6 false true false false) := by
  refine returnsInHanded_of_change_sized (C := Try.checked) Try.own started (by kernel_rfl) Try.func6
    (ChangeSpec.witness6 (enc := enc) (C := Try.checked) false ⟨#[], #[.string ⟨#[]⟩, .int .i64 0, .int .i64 0], []⟩ 8 (by kernel_rfl) (by kernel_rfl) (by kernel_rfl) (by kernel_rfl)) ?_
  intro W base args ds gs before hval0 hW _ hsz _
  have hval : ∀ (j : Nat) t v, Try.f6.params[j]? = some t → args[j]? = some v → Value.okWide Try.prog W .any base t v := hval0
  have hW' := hW
  obtain ⟨p, q, hA0, hV, rfl, _, _⟩ := hW
  have hA : DataW.TrodAll enc Try.prog W 0 (fun _ => true) true Try.f6.params.toList args.toList ds p := hA0
  rw [Try.params6] at hA hval hsz
  obtain ⟨v0, v1, v2, d0, d1, d2, p0, p1, p2, rfl, rfl, rfl, h0, h1, h2⟩ := trodAll_three hA
  obtain ⟨z1, rfl, iz1⟩ := open_num (hval 1 3 v1 rfl rfl) h1
  obtain ⟨z2, rfl, iz2⟩ := open_num (hval 2 3 v2 rfl rfl) h2
  obtain ⟨s0, rfl, zs0⟩ := open_word6 (hval 0 9 v0 rfl rfl) h0 (fun n hn => of_decide_eq_true (List.all_eq_true.1 hsz _ (DataW.weights_mem_each (j := 0) (t := 9) rfl rfl n hn)))
  clear hA0 hval0
  refine (words_walk storeC s0 z1 z2 W (by unfold reachBytes at zs0; omega) iz1 iz2).mono fun e W' ⟨he, hb⟩ => ⟨_, he, post_law rfl hW' rfl rfl ?_ hb⟩
  intro t ht
  rw [Try.params6] at ht
  simp only [List.mem_cons, List.not_mem_nil, or_false] at ht
  rcases ht with rfl | rfl | rfl <;> exact ⟨by kernel_rfl, of_decide_eq_true (by kernel_rfl)⟩

theorem storeWords_holds : Rows.StoreWordsSaid :=
  OpenClaim.holds_of_wide 6 Try.f6 rfl rfl rfl rfl rfl rfl rfl ⟨rfl, rfl, rfl, rfl, rfl⟩ rfl rfl rfl rfl rfl (by kernel_rfl) Try.func6 (by kernel_rfl)
    (of_decide_eq_true (by kernel_rfl)) (by unfold Func.isWrapper; rw [if_neg (of_decide_eq_false (by kernel_rfl))]; exact ⟨rfl, rfl⟩)
    (fun os started H enc _ => storeWords_lifted os started H enc)

#print axioms storeWords_holds

end Go.Proofs.Ytkeekefekajfnaa
