/- What a token's reader answers; texts in small letters; numbers by the library; a Number, a Param. -/
import Derived.Test.YtgmmbfcjjgehoaaGreatDoorLcA
import Derived.Test.YtgmmbfcjjgehoaaGreatDoorLay
import Derived.Lib.AtoiAllCases
namespace Go.Proofs.YtgmmbfcjjgehoaaGreatDoor
open Go.RowKit
set_option maxRecDepth 100000

/-- What a reader of one token answers: the token without its place, how many bytes it has, no error; or no token, how many bytes are ahead of the error's place, the error. -/
def LRes : One → Ending → Prop
  | .tok kd n s used, e => e = .returned (.tuple #[.agg #[.int .i64 (kd : Int), .int .i64 (n : Int), .int .i64 0, .string (bsB s)], .int .i64 (used : Int), .int .i64 0])
  | .err er rel, e => e = .returned (.tuple #[.agg #[.int .i64 0, .int .i64 0, .int .i64 0, .string ⟨#[]⟩], .int .i64 (rel : Int), .int .i64 (er : Int)])
theorem LRes.tok_of {kd n used : Nat} {s : Bs} {x : Int} (h : x = (used : Int)) : LRes (.tok kd n s used) (.returned (.tuple #[.agg #[.int .i64 (kd : Int), .int .i64 (n : Int), .int .i64 0, .string (bsB s)], .int .i64 x, .int .i64 0])) := by rw [h]; rfl

/-- A token in memory, at the beginning of a block that is written. -/
structure TK (W : World) (g : Nat) (kd n a : Int) (st : ByteArray) : Prop where
  lt : g < W.heap.size
  c0 : W.cell? ⟨g, 0, none⟩ = some (.int .i64 kd)
  c1 : W.cell? ⟨g, 1, none⟩ = some (.int .i64 n)
  c2 : W.cell? ⟨g, 2, none⟩ = some (.int .i64 a)
  c3 : W.cell? ⟨g, 3, none⟩ = some (.string st)
  fz : ∀ o, W.frozen? ⟨g, o, none⟩ = false
theorem TK.ext {W W' : World} {g : Nat} {kd n a : Int} {st : ByteArray} (h : TK W g kd n a st) {m : Nat} (hb : Below m W W') (hm : g < m) : TK W' g kd n a st :=
  ⟨Nat.lt_of_lt_of_le h.lt hb.size, (hb.cell (p := ⟨_, _, none⟩) hm).trans h.c0, (hb.cell (p := ⟨_, _, none⟩) hm).trans h.c1, (hb.cell (p := ⟨_, _, none⟩) hm).trans h.c2, (hb.cell (p := ⟨_, _, none⟩) hm).trans h.c3, fun o => (hb.frozen (p := ⟨_, o, none⟩) hm).trans (h.fz o)⟩
theorem TK.on {W W' : World} {g : Nat} {kd n a : Int} {st : ByteArray} (h : TK W g kd n a st) (hb : Below W.heap.size W W') : TK W' g kd n a st := h.ext hb h.lt
theorem TK.new (w : World) (kd n a : Int) (st : ByteArray) (T : TypeId) : TK (w.alloc (.cells #[.int .i64 kd, .int .i64 n, .int .i64 a, .string st] T)) w.heap.size kd n a st :=
  ⟨by simp, by simp [go_sem], by simp [go_sem], by simp [go_sem], by simp [go_sem], fun o => by simp [go_sem]⟩

theorem foldl_grows (l : Bs) (acc : Nat) : acc ≤ l.foldl numStep acc := by
  induction l generalizing acc with
  | nil => exact Nat.le_refl _
  | cons b l ih =>
    rw [List.foldl_cons]
    exact Nat.le_trans (by unfold numStep; omega) (ih _)
theorem parse_ok : ∀ (l : Bs) (acc : Nat), (∀ b ∈ l, isDigit b = true) → l.foldl numStep acc ≤ 9223372036854775807 → Lib.parseUint10 acc l = .ok (l.foldl numStep acc)
  | [], _, _, _ => rfl
  | b :: l, acc, hd, hm => by
    have h1 := hd b List.mem_cons_self
    rw [digit_num] at h1
    have h2 := of_decide_eq_true h1
    rw [List.foldl_cons] at hm ⊢
    have h3 := foldl_grows l (numStep acc b)
    have e : numStep acc b = acc * 10 + (b.toNat - 48) := by unfold numStep; omega
    rw [Lib.parseUint10, if_pos h2, if_neg (by omega), if_neg (by omega), ← e]
    exact parse_ok l _ (fun c hc => hd c (List.mem_cons_of_mem _ hc)) hm
theorem parse_big : ∀ (l : Bs) (acc : Nat), (∀ b ∈ l, isDigit b = true) → 9223372036854775807 < l.foldl numStep acc → Lib.parseUint10 acc l = .range ∨ ∃ u, Lib.parseUint10 acc l = .ok u ∧ 9223372036854775807 < u
  | [], acc, _, hm => .inr ⟨acc, rfl, hm⟩
  | b :: l, acc, hd, hm => by
    have h1 := hd b List.mem_cons_self
    rw [digit_num] at h1
    have h2 := of_decide_eq_true h1
    have e : numStep acc b = acc * 10 + (b.toNat - 48) := by unfold numStep; omega
    rw [Lib.parseUint10, if_pos h2]
    split
    · exact .inl rfl
    · split
      · exact .inl rfl
      · rw [← e]
        exact parse_big l _ (fun c hc => hd c (List.mem_cons_of_mem _ hc)) hm
theorem atoi_digits (l : Bs) (hd : ∀ b ∈ l, isDigit b = true) (hne : l ≠ []) : (numOf l ≤ 9223372036854775807 → Lib.atoiAll l = .ok (numOf l : Int)) ∧ (9223372036854775807 < numOf l → Lib.atoiAll l = .range) := by
  cases l with
  | nil => exact absurd rfl hne
  | cons b l =>
    have h1 := hd b List.mem_cons_self
    rw [digit_num] at h1
    have h2 := of_decide_eq_true h1
    have e : Lib.atoiAll (b :: l) = Lib.signless (Lib.parseUint10 0 (b :: l)) := by
      rw [Lib.atoiAll_plain b l (by omega) (by omega), Lib.parseMag, if_neg (by simp)]
    rw [e]
    refine ⟨fun h => ?_, fun h => ?_⟩
    · rw [parse_ok (b :: l) 0 hd h, Lib.signless, if_neg (by unfold numOf at h; omega)]; rfl
    · rcases parse_big (b :: l) 0 hd h with h3 | ⟨u, h3, h4⟩
      · rw [h3]; rfl
      · rw [h3, Lib.signless, if_pos (by omega)]

theorem atoi_ok (t : ByteArray) (l : Bs) (ht : t.data.toList = l) (w : World) (hs : t.size ≤ 2000) (hd : ∀ b ∈ l, isDigit b = true) (hne : l ≠ []) (hm : numOf l ≤ 9223372036854775807) :
    Calls Tryz.prog 72 #[.string t] w fun e w' => e = .returned (.tuple #[.int .i64 (numOf l : Int), .nilIface]) ∧ Below w.heap.size w w' := by
  have h : Calls Tryz.prog 72 #[.string t] w _ := Any.strconv_Atoi_ok Tryz.laysC172 t (by omega) (numOf l : Int) (by rw [ht]; exact (atoi_digits l hd hne).1 hm) w
  refine h.mono ?_
  rintro e w' ⟨rfl, rfl | ⟨u, rfl⟩⟩
  · exact ⟨rfl, ext_refl _⟩
  · exact ⟨rfl, Lib.bytesWorld_below _ _ _⟩
theorem atoi_big (t : ByteArray) (l : Bs) (ht : t.data.toList = l) (w : World) (hG : GV w) (hs : t.size ≤ 2000) (hd : ∀ b ∈ l, isDigit b = true) (hne : l ≠ []) (hm : 9223372036854775807 < numOf l) :
    Calls Tryz.prog 72 #[.string t] w fun e w' => (∃ n N, e = .returned (.tuple #[.int .i64 n, .iface 154 (.pointer (some ⟨N, 0, none⟩))])) ∧ Below w.heap.size w w' := by
  obtain ⟨te, pe, he⟩ := hG.er
  have h : Calls Tryz.prog 72 #[.string t] w _ := Any.strconv_Atoi_range Tryz.laysC172 t (by omega) (by rw [ht]; exact (atoi_digits l hd hne).2 hm) (.iface te pe) w he (.inr ⟨te, pe, rfl⟩)
  refine h.mono ?_
  rintro e w' ⟨N, rfl, _, _, hb⟩
  exact ⟨⟨_, N, rfl⟩, hb⟩

theorem Tryz.builderX : Builder.Extra Tryz.prog Tryz.lays159_ren where
  sizeBuilder := by kernel_rfl
  liesBuilder := by kernel_rfl
  t5 := Tryz.underlying5
  a5 := Tryz.isAgg5
  z5 := Tryz.sizeOf5
  v5 := Tryz.zeroValue5
  infoByte := by kernel_rfl
  cellsByte := by kernel_rfl
  sizeByte := by kernel_rfl
  neB5 := by decide

theorem part_ascii {b : UInt8} (h : isWordB b = true) : b.toNat < 128 := all_bytes (P := fun b => isWordB b = true → b.toNat < 128) (by decide) b h
theorem lowerB_lower (b : UInt8) : Lib.lowerB b = lower b := all_bytes (P := fun b => Lib.lowerB b = lower b) (by decide) b
theorem tolower_any (s : ByteArray) (w : World) (hs : s.size ≤ 2000) (hw : ∀ b ∈ s.data.toList, isWordB b = true) :
    Calls Tryz.prog 87 #[.string s] w fun e w' => e = .returned (.string (bsB (s.data.toList.map lower))) ∧ Below w.heap.size w w' := by
  have h : Calls Tryz.prog 87 #[.string s] w _ := Any.strings_ToLower_ascii Tryz.lays159 Tryz.builderX s w (by omega) (fun j b hj => part_ascii (hw b (List.mem_of_getElem? hj)))
  refine h.mono ?_
  rintro e w' ⟨rfl, hb⟩
  refine ⟨?_, hb⟩
  rw [Lib.toLowerA, show Lib.lowerB = lower from funext lowerB_lower]
theorem clone_any (s : ByteArray) (w : World) (hs : s.size ≤ 2000) : Calls Tryz.prog 86 #[.string s] w fun e w' => e = .returned (.string s) ∧ Below w.heap.size w w' := by
  have h : Calls Tryz.prog 98 #[.string s] w _ := Any.stringslite_Clone Tryz.laysM316 s w (by omega)
  go_enter Tryz.func86, Tryz.ntmps86
  go_wp2_with fail
  refine h.mono ?_
  rintro e w' ⟨rfl, hb⟩
  go_wp2_with fail
  go_ret
  exact ⟨rfl, hb⟩
theorem lower_any (s : ByteArray) (w : World) (hs : s.size ≤ 2000) (hw : ∀ b ∈ s.data.toList, isWordB b = true) :
    Calls Tryz.prog 71 #[.string s] w fun e w' => e = .returned (.string (bsB (s.data.toList.map lower))) ∧ Below w.heap.size w w' := by
  have hsl : s.data.toList.length = s.size := Array.length_toList
  obtain ⟨l, hl⟩ : ∃ l, l = bsB (s.data.toList.map lower) := ⟨_, rfl⟩
  have hls : l.size ≤ 2000 := by rw [hl]; show (s.data.toList.map lower).length ≤ _; rw [List.length_map, hsl]; exact hs
  have c := tolower_any s w hs hw
  rw [← hl] at c ⊢
  clear hl hw hsl
  go_enter Tryz.func71, Tryz.ntmps71
  go_wp2_with fail
  refine c.mono ?_
  rintro e w1 ⟨rfl, hb1⟩
  go_wp2_with fail
  refine (clone_any l w1 hls).mono ?_
  rintro e w2 ⟨rfl, hb2⟩
  go_wp2_with fail
  go_ret
  exact ⟨rfl, ext_trans hb1 hb2⟩

/-- The first bytes of a text. -/
theorem first_data (s : ByteArray) (k : Nat) : (s.extract 0 k).data.toList = s.data.toList.take k := by
  rw [ByteArray.data_extract, Array.toList_extract, List.extract_eq_take_drop, Nat.sub_zero, List.drop_zero]
theorem take_while (p : UInt8 → Bool) (l : Bs) : l.take (l.takeWhile p).length = l.takeWhile p := by
  obtain ⟨t, ht⟩ := List.takeWhile_prefix p (l := l)
  generalize l.takeWhile p = d at ht ⊢
  rw [← ht, List.take_left]
theorem while_all {p : UInt8 → Bool} {l : Bs} {b : UInt8} (h : b ∈ l.takeWhile p) : p b = true := by
  have := List.all_takeWhile (p := p) (l := l)
  exact List.all_eq_true.1 this b h

set_option maxHeartbeats 1000000 in
theorem lnumber_any (s : ByteArray) (w : World) (hG : GV w) (hs : s.size ≤ 2000) (b : UInt8) (hb : s.data.toList[0]? = some b) (hd : isDigit b = true) :
    Calls Tryz.prog 49 #[.string s] w fun e w' => LRes (oneNum s.data.toList) e ∧ Below w.heap.size w w' := by
  have hsl : s.data.toList.length = s.size := Array.length_toList
  have hlen := takeWhile_le isDigit s.data.toList
  obtain ⟨D, hD⟩ : ∃ D, D = s.data.toList.takeWhile isDigit := ⟨_, rfl⟩
  have hD1 : D ≠ [] := by
    rw [hD]
    cases hl : s.data.toList with
    | nil => rw [hl] at hb; cases hb
    | cons a r => rw [hl] at hb; simp at hb; subst hb; rw [List.takeWhile_cons, hd]; simp
  have hD2 : ∀ b ∈ D, isDigit b = true := fun b h => while_all (by rw [← hD]; exact h)
  obtain ⟨k, hk⟩ : ∃ k, k = D.length := ⟨_, rfl⟩
  have hks : k ≤ s.size := by rw [hk, hD]; omega
  have hex : (s.extract 0 k).data.toList = D := by rw [first_data, hk, hD, take_while]
  have hexs : (s.extract 0 k).size ≤ 2000 := by rw [← show (s.extract 0 k).data.toList.length = (s.extract 0 k).size from Array.length_toList, hex, ← hk]; omega
  have C0 := Lib.hid (fun W => span_digit s W hs)
  have HO : oneNum s.data.toList = if 9223372036854775807 < numOf D then .err 5 0 else .tok 3 (numOf D) [] k := by unfold oneNum; rw [← hD, hk]
  rw [← hD, ← hk] at C0
  obtain ⟨x, hx⟩ : ∃ x, x = s.extract 0 k := ⟨_, rfl⟩
  have HX := Lib.hid hx
  rw [← hx] at hex hexs
  clear hD hsl hlen hb hd hk hx
  by_cases hover : 9223372036854775807 < numOf D
  · rw [HO, if_pos hover]
    have CA := fun W hW => atoi_big x D hex W hW hexs hD2 hD1 hover
    clear HO hover hD1 hD2 hex
    go_enter Tryz.func49, Tryz.ntmps49
    go_wp2_with fail
    refine (C0.out _).mono ?_
    rintro e w1 ⟨rfl, rfl⟩
    go_wp2_with fail
    rw [← HX.out]
    refine (CA _ (hG.alloc _)).mono ?_
    rintro e w2 ⟨⟨n, N, rfl⟩, hb2⟩
    obtain ⟨lt, z0, z1, z2, z3, fz⟩ := (TK.new w 0 0 0 ⟨#[]⟩ 62).on hb2
    go_wp2_with fail
    refine bodyPost_ret (v := .tuple #[.agg #[.int .i64 0, .int .i64 0, .int .i64 0, .string ⟨#[]⟩], .int .i64 0, .int .i64 5]) (by simp [results, Tryz.results49, go_sem, *]) rfl ⟨rfl, ?_⟩
    (repeat (first | exact ext_refl _ | assumption | (refine ext_alloc ?_ _) | (refine ext_drewN ?_ _) | refine ext_drew ?_ | (refine ext_set (by first | (simp; done) | (simp; omega)) _ ?_) | (refine ext_trans ?_ (by assumption))))
  · rw [HO, if_neg hover]
    have CA := fun W => atoi_ok x D hex W hexs hD2 hD1 (by omega)
    obtain ⟨m, hm⟩ : ∃ m, m = numOf D := ⟨_, rfl⟩
    rw [← hm] at CA ⊢
    clear HO hover hD1 hD2 hex hm
    go_enter Tryz.func49, Tryz.ntmps49
    go_wp2_with fail
    refine (C0.out _).mono ?_
    rintro e w1 ⟨rfl, rfl⟩
    go_wp2_with fail
    rw [← HX.out]
    refine (CA _).mono ?_
    rintro e w2 ⟨rfl, hb2⟩
    obtain ⟨lt, z0, z1, z2, z3, fz⟩ := (TK.new w 0 0 0 ⟨#[]⟩ 62).on hb2
    go_wp2_with fail
    refine bodyPost_ret (v := .tuple #[.agg #[.int .i64 3, .int .i64 (m : Int), .int .i64 0, .string ⟨#[]⟩], .int .i64 (k : Int), .int .i64 0]) (by simp [results, Tryz.results49, go_sem, *]) rfl ⟨rfl, ?_⟩
    (repeat (first | exact ext_refl _ | assumption | (refine ext_alloc ?_ _) | (refine ext_drewN ?_ _) | refine ext_drew ?_ | (refine ext_set (by first | (simp; done) | (simp; omega)) _ ?_) | (refine ext_trans ?_ (by assumption))))

end Go.Proofs.YtgmmbfcjjgehoaaGreatDoor
