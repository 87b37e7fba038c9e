/- What a bag's own functions do: New, Add, Take, Count, Len. -/
import Derived.Test.YtinonaiolhgklaaBgW
namespace Go.Proofs.Ytinonaiolhgklaa
open Go.RowKit Go.Maps
open Go.Proofs (encStr)

theorem key_of (s : ByteArray) (h : s.size ≤ 9223372036854775807) : keyOf Try.prog 9 (.string s) = some (.string s.data.toList) := Go.WideMaps.keyOf_string_mk Try.underlying9 (by unfold maxLen; omega)

/-- The blocks of a bag. -/
def Two (p m k : Nat) : Prop := k = p ∨ k = m

set_option maxRecDepth 100000 in
theorem count_any (p m N : Nat) (L : List Txt) (s : ByteArray) (w : World) (hs : s.size ≤ 9223372036854775807) (hB : BagP w p m N L) :
    Calls Try.prog 16 #[.pointer (some ⟨p, 0, none⟩), .string s] w fun e w' => e = .returned (.int .i64 (L.count s.data.toList : Int)) ∧ w' = w := by
  have c0 := hB.c0
  obtain ⟨D, hown, hD⟩ := hB.own
  go_enter Try.func16, Try.ntmps16
  go_wp2_with (first | (at_lookup; refine wpList_lookup_own_int _ rfl _ _ 46 rfl 9 3 .i64 Try.law Try.underlying46 Try.underlying3 (Try.zeroInt _) m N D rfl hown _ _ rfl (key_of s hs) ?_; intro c hat hwc))
  rw [hD.get] at hat
  have hc : c = (L.count s.data.toList : Int) := by simpa using hat.symm
  subst hc
  go_ret
  exact ⟨rfl, rfl⟩

theorem len_any (p m N : Nat) (L : List Txt) (w : World) (hB : BagP w p m N L) :
    Calls Try.prog 27 #[.pointer (some ⟨p, 0, none⟩)] w fun e w' => e = .returned (.int .i64 (L.length : Int)) ∧ w' = w := by
  have c1 := hB.c1
  go_enter Try.func27, Try.ntmps27
  go_wp2
  go_ret
  exact ⟨rfl, rfl⟩

set_option maxRecDepth 100000 in
theorem put_any (p m N : Nat) (L : List Txt) (s : ByteArray) (n : Nat) (w : World) (hs : s.size ≤ 9223372036854775807) (hn : 0 < n) (hL : L.length + n ≤ 9223372036854775807) (hN : N < 9223372036854775807) (hB : BagP w p m N L) :
    Calls Try.prog 31 #[.pointer (some ⟨p, 0, none⟩), .string s, .int .i64 (n : Int)] w fun e w' => e = .returned (.tuple #[]) ∧ BagP w' p m (N + 1) (List.replicate n s.data.toList ++ L) ∧ Out (Two p m) w w' := by
  have c0 := hB.c0
  have hne := hB.ne
  have hltp := hB.lt
  obtain ⟨D, hown, hD⟩ := hB.own
  have hcl : L.count s.data.toList ≤ L.length := List.count_le_length
  have hblk := Lib.hid hB.blk
  go_enter Try.func31, Try.ntmps31
  go_wp2_with (first
    | (at_lookup; refine wpList_lookup_own_int _ rfl _ _ 46 rfl 9 3 .i64 Try.law Try.underlying46 Try.underlying3 (Try.zeroInt _) m N D rfl hown _ _ rfl (key_of s hs) ?_; intro c hat hwc; rw [hD.get] at hat; obtain rfl : c = (L.count s.data.toList : Int) := by simpa using hat.symm)
    | (at_mapUpdate; refine wpList_mapUpdate_own _ rfl _ _ _ 46 rfl 9 3 Try.law Try.underlying46 _ m N D rfl hown (by unfold maxLen; omega) _ _ _ rfl rfl (key_of s hs) (.lit (.int .i64 ((L.count s.data.toList + n : Nat) : Int))) [] ?_ ?_))
  case refine_1 => exact plainElem_int Try.underlying3 (WalkArith.wf_i64 (by omega))
  intro w1 hown1 hg1
  have hD1 := hD.put hown.isMap s.data.toList n hn
  have hb1 : w1.heap[p]? = some (.cells #[.map (some m), .int .i64 (L.length : Int)] 50 (0, 0)) := by rw [hg1.block p hltp (by simpa using hne)]; exact hblk.out
  have c1 : w1.cell? ⟨p, 1, none⟩ = some (.int .i64 (L.length : Int)) := by rw [Lib.cell_of_heap hb1]; rfl
  have f1 := Lib.frozen_of_heap hb1
  have H1 := Lib.hid hb1
  clear hb1 hblk c0 hat
  go_wp2
  go_end0
  refine ⟨rfl, ?_, ?_⟩
  · have h := BagP.total H1.out hown1 hD1
    rw [List.length_append, List.length_replicate, show ((n + L.length : Nat) : Int) = (L.length : Int) + (n : Int) by omega] at h
    exact h
  · exact (Out.grown (S := Two p m) hg1 (fun k hk => .inr (by simpa using hk.symm))).trans (Out.set ⟨p, 1, none⟩ _ (.inl rfl))

set_option maxRecDepth 100000 in
theorem take_none (p m N : Nat) (L : List Txt) (s : ByteArray) (w : World) (hs : s.size ≤ 9223372036854775807) (hB : BagP w p m N L) (hc : L.count s.data.toList = 0) :
    Calls Try.prog 30 #[.pointer (some ⟨p, 0, none⟩), .string s] w fun e w' => e = .returned (.bool false) ∧ w' = w := by
  have c0 := hB.c0
  obtain ⟨D, hown, hD⟩ := hB.own
  go_enter Try.func30, Try.ntmps30
  go_wp2_with (first
    | (at_lookup; refine wpList_lookup_own_int _ rfl _ _ 46 rfl 9 3 .i64 Try.law Try.underlying46 Try.underlying3 (Try.zeroInt _) m N D rfl hown _ _ rfl (key_of s hs) ?_; intro c hat hwc; rw [hD.get] at hat; obtain rfl : c = (L.count s.data.toList : Int) := by simpa using hat.symm))
  go_ret
  exact ⟨rfl, rfl⟩

set_option maxRecDepth 100000 in
theorem take_last (p m N : Nat) (L : List Txt) (s : ByteArray) (w : World) (hs : s.size ≤ 9223372036854775807) (hB : BagP w p m N L) (hc : L.count s.data.toList = 1) (hL : L.length ≤ 9223372036854775807) :
    Calls Try.prog 30 #[.pointer (some ⟨p, 0, none⟩), .string s] w fun e w' => e = .returned (.bool true) ∧ BagP w' p m N (L.erase s.data.toList) ∧ Out (Two p m) w w' := by
  have c0 := hB.c0
  have hne := hB.ne
  have hltp := hB.lt
  obtain ⟨D, hown, hD⟩ := hB.own
  have hblk := Lib.hid hB.blk
  have hlen : (L.erase s.data.toList).length = L.length - 1 := List.length_erase_of_mem (List.count_pos_iff.1 (by omega))
  have hpos : 0 < L.length := by have : L.count s.data.toList ≤ L.length := List.count_le_length; omega
  have HL := Lib.hid hlen
  clear hlen
  go_enter Try.func30, Try.ntmps30
  go_wp2_with (first
    | (at_lookup; refine wpList_lookup_own_int _ rfl _ _ 46 rfl 9 3 .i64 Try.law Try.underlying46 Try.underlying3 (Try.zeroInt _) m N D rfl hown _ _ rfl (key_of s hs) ?_; intro c hat hwc; rw [hD.get] at hat; obtain rfl : c = (L.count s.data.toList : Int) := by simpa using hat.symm)
    | (at_delete; refine wpList_delete_own _ rfl _ _ 46 9 rfl 3 Try.law Try.underlying46 _ m N D rfl hown _ _ rfl (key_of s hs) ?_))
  intro w1 hown1 ht1
  have hg1 := ht1.grown
  have hD1 := hD.del s.data.toList hc
  have hb1 : w1.heap[p]? = some (.cells #[.map (some m), .int .i64 (L.length : Int)] 50 (0, 0)) := by rw [hg1.block p hltp (by simpa using hne)]; exact hblk.out
  have c1 : w1.cell? ⟨p, 1, none⟩ = some (.int .i64 (L.length : Int)) := by rw [Lib.cell_of_heap hb1]; rfl
  have f1 := Lib.frozen_of_heap hb1
  have H1 := Lib.hid hb1
  have HG := Lib.hid hg1
  clear hb1 hblk c0 ht1 hg1
  go_wp2
  go_ret
  refine ⟨rfl, ?_, ?_⟩
  · have h := BagP.total H1.out hown1 hD1
    rw [HL.out, show ((L.length - 1 : Nat) : Int) = (L.length : Int) - 1 by omega] at h
    exact h
  · exact (Out.grown (S := Two p m) HG.out (fun k hk => .inr (by simpa using hk.symm))).trans (Out.set ⟨p, 1, none⟩ _ (.inl rfl))

set_option maxRecDepth 100000 in
theorem take_more (p m N : Nat) (L : List Txt) (s : ByteArray) (c : Nat) (w : World) (hs : s.size ≤ 9223372036854775807) (hB : BagP w p m N L) (hc : L.count s.data.toList = c + 1) (hc1 : 0 < c) (hL : L.length ≤ 9223372036854775807) (hN : N < 9223372036854775807) :
    Calls Try.prog 30 #[.pointer (some ⟨p, 0, none⟩), .string s] w fun e w' => e = .returned (.bool true) ∧ BagP w' p m (N + 1) (L.erase s.data.toList) ∧ Out (Two p m) w w' := by
  have c0 := hB.c0
  have hne := hB.ne
  have hltp := hB.lt
  obtain ⟨D, hown, hD⟩ := hB.own
  have hblk := Lib.hid hB.blk
  have hlen : (L.erase s.data.toList).length = L.length - 1 := List.length_erase_of_mem (List.count_pos_iff.1 (by omega))
  have hpos : c < L.length := by have : L.count s.data.toList ≤ L.length := List.count_le_length; omega
  have HL := Lib.hid hlen
  clear hlen
  have hm0 : ¬ (c : Int) = 0 := by omega
  have hn0 : ¬ (c : Int) + 1 = 0 := by omega
  have hn1 : ¬ (c : Int) + 1 = 1 := by omega
  go_enter Try.func30, Try.ntmps30
  go_wp2_with (first
    | (at_lookup; refine wpList_lookup_own_int _ rfl _ _ 46 rfl 9 3 .i64 Try.law Try.underlying46 Try.underlying3 (Try.zeroInt _) m N D rfl hown _ _ rfl (key_of s hs) ?_; intro c hat hwc; rw [hD.get] at hat; obtain rfl : c = (L.count s.data.toList : Int) := by simpa using hat.symm)
    | (at_mapUpdate; refine wpList_mapUpdate_own _ rfl _ _ _ 46 rfl 9 3 Try.law Try.underlying46 _ m N D rfl hown (by unfold maxLen; omega) _ _ _ rfl rfl (key_of s hs) (.lit (.int .i64 (c : Int))) [] ?_ ?_))
  case refine_1 => exact plainElem_int Try.underlying3 (WalkArith.wf_i64 (by omega))
  intro w1 hown1 hg1
  have hD1 := hD.down hown.isMap s.data.toList c hc hc1
  have hb1 : w1.heap[p]? = some (.cells #[.map (some m), .int .i64 (L.length : Int)] 50 (0, 0)) := by rw [hg1.block p hltp (by simpa using hne)]; exact hblk.out
  have c1 : w1.cell? ⟨p, 1, none⟩ = some (.int .i64 (L.length : Int)) := by rw [Lib.cell_of_heap hb1]; rfl
  have f1 := Lib.frozen_of_heap hb1
  have H1 := Lib.hid hb1
  have HG := Lib.hid hg1
  clear hb1 hblk c0 hg1
  go_wp2
  go_ret
  refine ⟨rfl, ?_, ?_⟩
  · have h := BagP.total H1.out hown1 hD1
    rw [HL.out, show ((L.length - 1 : Nat) : Int) = (L.length : Int) - 1 by omega] at h
    exact h
  · exact (Out.grown (S := Two p m) HG.out (fun k hk => .inr (by simpa using hk.symm))).trans (Out.set ⟨p, 1, none⟩ _ (.inl rfl))

theorem takeOne_any (p m N : Nat) (L : List Txt) (s : ByteArray) (w : World) (hs : s.size ≤ 9223372036854775807) (hB : BagP w p m N L) (hL : L.length ≤ 9223372036854775807) (hN : N < 9223372036854775807) :
    Calls Try.prog 30 #[.pointer (some ⟨p, 0, none⟩), .string s] w fun e w' => e = .returned (.bool (decide (s.data.toList ∈ L))) ∧ BagP w' p m (N + 1) (L.erase s.data.toList) ∧ Out (Two p m) w w' := by
  match h : L.count s.data.toList with
  | 0 =>
    have hn : s.data.toList ∉ L := List.count_eq_zero.1 h
    refine (take_none p m N L s w hs hB h).mono ?_
    rintro e w' ⟨rfl, rfl⟩
    rw [List.erase_of_not_mem hn]
    exact ⟨by simp [hn], hB.mono (Nat.le_succ _), Out.refl _ _⟩
  | 1 =>
    have hn : s.data.toList ∈ L := List.count_pos_iff.1 (by omega)
    refine (take_last p m N L s w hs hB h hL).mono ?_
    rintro e w' ⟨rfl, h1, h2⟩
    exact ⟨by simp [hn], h1.mono (Nat.le_succ _), h2⟩
  | c + 2 =>
    have hn : s.data.toList ∈ L := List.count_pos_iff.1 (by omega)
    refine (take_more p m N L s (c + 1) w hs hB h (by omega) hL hN).mono ?_
    rintro e w' ⟨rfl, h1, h2⟩
    exact ⟨by simp [hn], h1, h2⟩

theorem bagTake_any (p m N : Nat) (L : List Txt) (s : ByteArray) (w : World) (hs : s.size ≤ 9223372036854775807) (hB : BagP w p m N L) (hL : L.length ≤ 9223372036854775807) (hN : N < 9223372036854775807) :
    Calls Try.prog 12 #[.pointer (some ⟨p, 0, none⟩), .string s] w fun e w' => e = .returned (.bool (decide (s.data.toList ∈ L))) ∧ BagP w' p m (N + 1) (L.erase s.data.toList) ∧ Out (Two p m) w w' := by
  go_enter Try.func12, Try.ntmps12
  go_wp2_with fail
  refine (takeOne_any p m N L s w hs hB hL hN).mono ?_
  rintro e w1 ⟨rfl, h1, h2⟩
  go_wp2
  go_ret
  exact ⟨rfl, h1, h2⟩

theorem bagAdd_any (p m N : Nat) (L : List Txt) (s : ByteArray) (w : World) (hs : s.size ≤ 9223372036854775807) (hL : L.length < 9223372036854775807) (hN : N < 9223372036854775807) (hB : BagP w p m N L) :
    Calls Try.prog 14 #[.pointer (some ⟨p, 0, none⟩), .string s] w fun e w' => e = .returned (.tuple #[]) ∧ BagP w' p m (N + 1) (s.data.toList :: L) ∧ Out (Two p m) w w' := by
  go_enter Try.func14, Try.ntmps14
  go_wp2_with fail
  refine (put_any p m N L s 1 w hs (by omega) (by omega) hN hB).mono ?_
  rintro e w1 ⟨rfl, h1, h2⟩
  go_wp2
  go_end0
  exact ⟨rfl, h1, h2⟩

set_option maxRecDepth 100000 in
theorem newTally_any (w : World) : Calls Try.prog 36 #[] w fun e w' => ∃ m, e = .returned (.agg #[.map (some m), .int .i64 0]) ∧ (w'.ownsMap (H := Unit) Try.prog 9 (plainElem Try.prog 3) m 0 (.map [])) ∧ Below w.heap.size w w' ∧ w.heap.size ≤ m := by
  have hmm := @run_makeMap Try.prog
  go_enter Try.func36, Try.ntmps36
  go_wp2
  refine bodyPost_ret (v := .agg #[.map (some (w.heap.size + 1)), .int .i64 0]) (by simp [results, Try.results36, go_sem]) rfl ⟨_, rfl, ?_, ?_, ?_⟩
  · have h := World.ownsMap_made (H := Unit) (w.alloc (.cells #[.map (some (w.heap.size + 1)), .int .i64 0] 48)) Try.prog 9 (plainElem Try.prog 3)
    rwa [World.size_alloc] at h
  · exact ((Below.refl _ _).alloc (Nat.le_refl _) _).alloc (by simp) _
  · omega

/-- A new bag: its blocks were not there before. -/
theorem new_any (w : World) : Calls Try.prog 28 #[] w fun e w' => ∃ p m, e = .returned (.pointer (some ⟨p, 0, none⟩)) ∧ BagP w' p m 0 [] ∧ Below w.heap.size w w' ∧ w.heap.size ≤ p ∧ w.heap.size ≤ m := by
  go_enter Try.func28, Try.ntmps28
  go_wp2_with fail
  refine (newTally_any w).mono ?_
  rintro e w1 ⟨m, rfl, hm, hb, hlm⟩
  go_wp2
  go_ret
  refine ⟨_, m, rfl, ⟨?_, .map [], hm.alloc _, BagD.nil⟩, hb.alloc hb.size _, hb.size, hlm⟩
  exact heap_alloc_new w1 _

end Go.Proofs.Ytinonaiolhgklaa
