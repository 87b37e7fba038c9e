/- The reference's letters, digits, small letters, numbers. -/
import Derived.Test.YtejfjlbnehdgnaaDoorLxCase
import Derived.Test.YtejfjlbnehdgnaaDoorLxN
namespace Go.Proofs.YtejfjlbnehdgnaaDoor
open Go.RowKit
set_option maxRecDepth 100000

theorem rletter_any (b : UInt8) (x : Int) (hx : x = (b.toNat : Int)) (w : World) : Calls Tryd.prog 14 #[.int .u8 x] w fun e w' => e = .returned (.bool (isLetter b)) ∧ w' = w := by
  have hb := letter_num b
  have h256 := b.toNat_lt
  obtain ⟨t, ht⟩ : ∃ t, t = isLetter b := ⟨_, rfl⟩
  rw [← ht] at hb ⊢
  clear ht
  by_cases h1 : x ≥ 97
  · by_cases h2 : x ≤ 122
    · obtain rfl : t = true := by rw [hb]; simp; omega
      clear hb hx
      go_enter Tryd.func14, Tryd.ntmps14
      go_wp2
      go_ret
      exact ⟨rfl, rfl⟩
    · obtain rfl : t = false := by rw [hb]; simp; omega
      have h3 : x ≥ 65 := by omega
      have h4 : ¬ x ≤ 90 := by omega
      clear hb hx
      go_enter Tryd.func14, Tryd.ntmps14
      go_wp2
      go_ret
      exact ⟨rfl, rfl⟩
  · by_cases h3 : x ≥ 65
    · by_cases h4 : x ≤ 90
      · obtain rfl : t = true := by rw [hb]; simp; omega
        clear hb hx
        go_enter Tryd.func14, Tryd.ntmps14
        go_wp2
        go_ret
        exact ⟨rfl, rfl⟩
      · obtain rfl : t = false := by rw [hb]; simp; omega
        clear hb hx
        go_enter Tryd.func14, Tryd.ntmps14
        go_wp2
        go_ret
        exact ⟨rfl, rfl⟩
    · obtain rfl : t = false := by rw [hb]; simp; omega
      clear hb hx
      go_enter Tryd.func14, Tryd.ntmps14
      go_wp2
      go_ret
      exact ⟨rfl, rfl⟩
theorem rdigit_any (b : UInt8) (x : Int) (hx : x = (b.toNat : Int)) (w : World) : Calls Tryd.prog 15 #[.int .u8 x] w fun e w' => e = .returned (.bool (isDigit b)) ∧ w' = w := by
  have hb := digit_num b
  obtain ⟨t, ht⟩ : ∃ t, t = isDigit b := ⟨_, rfl⟩
  rw [← ht] at hb ⊢
  clear ht
  by_cases h1 : x ≥ 48
  · by_cases h2 : x ≤ 57
    · obtain rfl : t = true := by rw [hb]; simp; omega
      clear hb hx
      go_enter Tryd.func15, Tryd.ntmps15
      go_wp2
      go_ret
      exact ⟨rfl, rfl⟩
    · obtain rfl : t = false := by rw [hb]; simp; omega
      clear hb hx
      go_enter Tryd.func15, Tryd.ntmps15
      go_wp2
      go_ret
      exact ⟨rfl, rfl⟩
  · obtain rfl : t = false := by rw [hb]; simp; omega
    clear hb hx
    go_enter Tryd.func15, Tryd.ntmps15
    go_wp2
    go_ret
    exact ⟨rfl, rfl⟩

set_option maxHeartbeats 2000000 in
theorem rdigits_any (s : ByteArray) (k : Nat) (w : World) (hk : k ≤ s.size) (hs : s.size ≤ 2000) (d : Bs) (hd : d = (s.data.toList.drop k).takeWhile isDigit) :
    Calls Tryd.prog 18 #[.string s, .int .i64 (k : Int)] w fun e w' => (∃ n : Int, 0 ≤ n ∧ n ≤ 9223372036854775807 ∧ (numOf d ≤ 9223372036854775807 → n = (numOf d : Int)) ∧ e = .returned (.tuple #[.int .i64 n, .int .i64 ((k + d.length : Nat) : Int), .bool (decide (9223372036854775807 < numOf d))])) ∧ w' = w := by
  have hsl : s.data.toList.length = s.size := Array.length_toList
  have hdl : k + d.length ≤ s.size := by
    have := takeWhile_le isDigit (s.data.toList.drop k)
    rw [← hd, List.length_drop, hsl] at this
    omega
  go_enter Tryd.func18, Tryd.ntmps18
  go_wp2_with fail
  go_loopw [1, 7, 8] (fun va vn vo wr => ∃ (j : Nat) (n : Int) (o : Bool), va = .int .i64 j ∧ vn = .int .i64 n ∧ vo = .bool o ∧ k ≤ j ∧ j ≤ k + d.length ∧ 0 ≤ n ∧ n ≤ 9223372036854775807 ∧ Hid (o = decide (9223372036854775807 < numOf (d.take (j - k))) ∧ (numOf (d.take (j - k)) ≤ 9223372036854775807 → n = (numOf (d.take (j - k)) : Int))) ∧ wr = w) (fun va _ _ _ => s.size - (intOf va).toNat)
  case atStart => exact ⟨k, 0, false, rfl, rfl, rfl, Nat.le_refl _, Nat.le_add_right _ _, by omega, by omega, by rw [Nat.sub_self]; exact ⟨rfl, fun _ => rfl⟩, rfl⟩
  case round =>
    obtain ⟨j, n, o, rfl, rfl, rfl, hj1, hj2, hn1, hn2, HH, rfl⟩ := hrel
    by_cases hlt : j < s.size
    · obtain ⟨b, hb⟩ : ∃ b, s.data.toList[j]? = some b := ⟨_, List.getElem?_eq_getElem (by rw [hsl]; exact hlt)⟩
      obtain ⟨p4, p5⟩ := byt_data hb
      have eb := (byt_at s j p4).trans p5
      have hb2 : (s.data.toList.drop k)[j - k]? = some b := by rw [List.getElem?_drop, show k + (j - k) = j by omega, hb]
      have hiff := takeWhile_at (p := isDigit) (i := j - k) (by rw [← hd]; omega) hb2
      rw [← hd] at hiff
      go_wp2_with fail
      refine (rdigit_any b _ rfl _).mono ?_
      rintro e w2 ⟨rfl, rfl⟩
      cases hdg : isDigit b with
      | true =>
        have hin := hiff.2 hdg
        have hget : d[j - k]? = some b := by rw [hd]; rw [hd] at hin; exact takeWhile_get hin hb2
        have hsn : numOf (d.take (j + 1 - k)) = 10 * numOf (d.take (j - k)) + (b.toNat - 48) := by rw [show j + 1 - k = j - k + 1 by omega, List.take_add_one, hget]; exact numOf_snoc _ _
        have hnum := digit_num b
        rw [hdg] at hnum
        have hnum2 := of_decide_eq_true hnum.symm
        obtain ⟨x, hx⟩ : ∃ x, x = (b.toNat : Int) := ⟨_, rfl⟩
        rw [← hx] at eb
        have hx1 : 48 ≤ x := by omega
        have hx2 : x ≤ 57 := by omega
        obtain ⟨ho, hno⟩ := HH.out
        have hjd : j + 1 ≤ k + d.length := by omega
        by_cases hbig : n > (9223372036854775807 - (x - 48)) / 10
        · have hnew : 9223372036854775807 < numOf (d.take (j + 1 - k)) := by
            by_cases h : numOf (d.take (j - k)) ≤ 9223372036854775807
            · have := hno h
              omega
            · omega
          have HN := Lib.hid (And.intro hnew hjd)
          clear hnew hno ho hsn hnum hnum2 hx hget hin hb2 hiff hb p5 hsl hdl hd HH hjd
          go_wp2_with fail
          go_roundw
          case rel => exact ⟨j + 1, x - 48, true, by go_num, rfl, rfl, by omega, HN.out.2, by omega, by omega, ⟨(decide_eq_true HN.out.1).symm, fun h => absurd HN.out.1 (by omega)⟩, trivial⟩
          case measure => simp [intOf] <;> omega
        · have hnew : (o = decide (9223372036854775807 < numOf (d.take (j + 1 - k)))) ∧ (numOf (d.take (j + 1 - k)) ≤ 9223372036854775807 → 10 * n + (x - 48) = (numOf (d.take (j + 1 - k)) : Int)) := by
            by_cases h : numOf (d.take (j - k)) ≤ 9223372036854775807
            · have h2 := hno h
              refine ⟨?_, fun _ => by omega⟩
              rw [ho]
              simp only [decide_eq_decide]
              omega
            · refine ⟨?_, fun h3 => by omega⟩
              rw [ho]
              simp only [decide_eq_decide]
              omega
          have HN := Lib.hid (And.intro hnew hjd)
          clear hnew hno ho hsn hnum hnum2 hx hget hin hb2 hiff hb p5 hsl hdl hd HH hjd
          go_wp2_with fail
          go_roundw
          case rel => exact ⟨j + 1, 10 * n + (x - 48), o, by go_num, by go_num, rfl, by omega, HN.out.2, by omega, by omega, HN.out.1, trivial⟩
          case measure => simp [intOf] <;> omega
      | false =>
        have hjk : j = k + d.length := by
          have h : ¬ j - k < d.length := fun h => by
            have := hiff.1 h
            rw [hdg] at this
            cases this
          omega
        obtain ⟨ho, hno⟩ := HH.out
        rw [hjk, Nat.add_sub_cancel_left, List.take_length] at ho hno
        have HN := Lib.hid (And.intro ho (And.intro hno hjk))
        clear ho hno hjk hiff hb2 hb p5 eb hsl hdl hd HH
        go_wp2_with fail
        refine bodyPost_ret (v := .tuple #[.int .i64 n, .int .i64 (j : Int), .bool o]) (by simp [results, Tryd.results18, go_sem]) rfl ?_
        exact ⟨⟨n, hn1, hn2, HN.out.2.1, by rw [← HN.out.1, ← HN.out.2.2]⟩, rfl⟩
    · have hjk : j = k + d.length := by omega
      obtain ⟨ho, hno⟩ := HH.out
      rw [hjk, Nat.add_sub_cancel_left, List.take_length] at ho hno
      have HN := Lib.hid (And.intro ho (And.intro hno hjk))
      clear ho hno hjk hsl hdl hd HH
      go_wp2_with fail
      refine bodyPost_ret (v := .tuple #[.int .i64 n, .int .i64 (j : Int), .bool o]) (by simp [results, Tryd.results18, go_sem]) rfl ?_
      exact ⟨⟨n, hn1, hn2, HN.out.2.1, by rw [← HN.out.1, ← HN.out.2.2]⟩, rfl⟩

/-- In small letters. -/
def mixedL (l : Bs) (i : Nat) : Bs := (l.take i).map lower ++ l.drop i
theorem mixedL_all (l : Bs) : mixedL l l.length = l.map lower := by unfold mixedL; rw [List.take_length, List.drop_length, List.append_nil]
theorem mixedL_at {l : Bs} {i : Nat} {b : UInt8} (h : l[i]? = some b) : (mixedL l i)[i]? = some b := by
  have hl := (List.getElem?_eq_some_iff.1 h).1
  unfold mixedL
  rw [List.getElem?_append_right (by rw [List.length_map, List.length_take]; omega), List.length_map, List.length_take, List.getElem?_drop, show i + (i - min i l.length) = i by omega, h]
theorem mixedL_step {l : Bs} {i : Nat} {b : UInt8} (h : l[i]? = some b) : mixedL l (i + 1) = (mixedL l i).set i (lower b) := by
  obtain ⟨hl, hb⟩ := List.getElem?_eq_some_iff.1 h
  unfold mixedL
  rw [List.take_add_one, h, List.set_append_right _ _ (by rw [List.length_map, List.length_take]; omega), List.length_map, List.length_take, show i - min i l.length = 0 by omega, List.drop_eq_getElem_cons hl, List.set_cons_zero]
  simp
theorem mixedL_same {l : Bs} {i : Nat} {b : UInt8} (h : l[i]? = some b) (hb : lower b = b) : mixedL l (i + 1) = mixedL l i := by
  rw [mixedL_step h, hb]
  exact List.ext_getElem? fun j => by
    rw [List.getElem?_set]
    split
    · rename_i e
      subst e
      have := mixedL_at h
      rw [this]
      split
      · rfl
      · rename_i hh
        rw [(List.getElem?_eq_none (by omega))] at this
        cases this
    · rfl
theorem addr_zero (g j : Nat) : (Addr.mk g 0 none).add j = ⟨g, j, none⟩ := by
  unfold Addr.add
  split
  · rename_i h0; rw [h0]
  · simp
theorem conv_back (w : World) (g cap : Nat) (l : Bs) (n : Nat) (hn : l.length = n) (h : ByteC w g l) : (convert 36 9 (.slice (some ⟨g, 0, none⟩) n cap)).run Tryd.prog w = .ok (.string (bsB l)) w := by
  subst hn
  refine run_convert_bytes_back w 36 9 5 ⟨g, 0, none⟩ cap l Tryd.underlying36 Tryd.underlying5 Tryd.underlying9 (fun j hj => ?_)
  rw [addr_zero]
  exact (h j _ (List.getElem?_eq_getElem hj)).1

set_option maxHeartbeats 2000000 in
theorem rsmall_any (s : ByteArray) (w : World) (hs : s.size ≤ 2000) : Calls Tryd.prog 16 #[.string s] w fun e w' => e = .returned (.string (bsB (s.data.toList.map lower))) ∧ Below w.heap.size w w' := by
  have hsl : s.data.toList.length = s.size := Array.length_toList
  have kc := fun (w : World) => Lib.run_convert_string_bytes (P := Tryd.prog) w 9 36 5 s Tryd.underlying9 Tryd.underlying36 Tryd.underlying5
  go_enter Tryd.func16, Tryd.ntmps16
  go_wp2_with fail
  have hsz := Lib.bytesWorld_size w 5 s
  have hbc := byteC_new w 5 s
  have hbb := Lib.bytesWorld_below w 5 s
  obtain ⟨cap, hcap⟩ : ∃ cap, cap = grownCap w s.size 0 5 := ⟨_, rfl⟩
  obtain ⟨V, hV⟩ : ∃ V, V = Lib.bytesWorld w 5 s := ⟨_, rfl⟩
  rw [← hV] at hsz hbc hbb
  rw [← hV, ← hcap]
  have HBC := Lib.hid hbc
  have HBB := Lib.hid hbb
  clear hV hcap kc hbc hbb
  obtain ⟨g, hg⟩ : ∃ g, g = w.heap.size := ⟨_, rfl⟩
  have HG := Lib.hid hg
  rw [← hg] at hsz HBC HBB
  rw [← hg]
  clear hg
  go_loopw [4] (fun vi wr => ∃ i : Nat, vi = .int .i64 i ∧ i ≤ s.size ∧ Hid (ByteC wr g (mixedL s.data.toList i) ∧ Below g w wr ∧ g < wr.heap.size)) (fun vi _ => s.size - (intOf vi).toNat)
  case atStart => exact ⟨0, rfl, Nat.zero_le _, HBC.out, HBB.out, by omega⟩
  case round =>
    obtain ⟨i, rfl, hi, HH⟩ := hrel
    obtain ⟨W, hW⟩ : ∃ W, W = wr := ⟨_, rfl⟩
    subst hW
    by_cases hlt : i < s.size
    · obtain ⟨b, hb⟩ : ∃ b, s.data.toList[i]? = some b := ⟨_, List.getElem?_eq_getElem (by rw [hsl]; exact hlt)⟩
      obtain ⟨c0, f0⟩ := HH.out.1 i b (mixedL_at hb)
      have hb256 := b.toNat_lt
      by_cases hbig : 65 ≤ b.toNat ∧ b.toNat ≤ 90
      · obtain ⟨k1, k2⟩ := hbig
        have k3 : (b.toNat : Int) ≥ 65 := by omega
        have k4 : (b.toNat : Int) ≤ 90 := by omega
        have hu := (lower_num b).1 ⟨k1, k2⟩
        have hset := HH.out.1.set i (lower b)
        rw [← mixedL_step hb, hu, show ((b.toNat + 32 : Nat) : Int) = (b.toNat : Int) + 32 by omega] at hset
        have HS := Lib.hid hset
        clear hset hu hb HBC HBB
        go_wp2_with fail
        go_roundw
        case rel => exact ⟨i + 1, by go_num, hlt, HS.out, HH.out.2.1.setCell (Nat.le_refl _) _, by rw [World.size_setCell]; exact HH.out.2.2⟩
        case measure => simp [intOf] <;> omega
      · have hsame := (lower_num b).2 hbig
        have hm := mixedL_same hb hsame
        by_cases k1 : 65 ≤ b.toNat
        · have k3 : (b.toNat : Int) ≥ 65 := by omega
          have k4 : ¬ (b.toNat : Int) ≤ 90 := by omega
          have HM := Lib.hid hm
          clear hm hb HBC HBB hsame hbig
          go_wp2_with fail
          go_roundw
          case rel => exact ⟨i + 1, by go_num, hlt, by rw [HM.out]; exact HH.out.1, HH.out.2⟩
          case measure => simp [intOf] <;> omega
        · have k3 : ¬ (b.toNat : Int) ≥ 65 := by omega
          have HM := Lib.hid hm
          clear hm hb HBC HBB hsame hbig
          go_wp2_with fail
          go_roundw
          case rel => exact ⟨i + 1, by go_num, hlt, by rw [HM.out]; exact HH.out.1, HH.out.2⟩
          case measure => simp [intOf] <;> omega
    · obtain rfl : i = s.size := by omega
      obtain ⟨hbc, hbl, hgl⟩ := HH.out
      rw [← hsl, mixedL_all] at hbc
      obtain ⟨S, hS⟩ : ∃ S, S = bsB (s.data.toList.map lower) := ⟨_, rfl⟩
      have kb := conv_back W g cap (s.data.toList.map lower) s.size (by rw [List.length_map, hsl]) hbc
      rw [← hS] at kb
      have BE := Lib.hid (HG.out ▸ hbl)
      clear HH HBC HBB hbc hbl
      have HS := Lib.hid hS
      clear hS
      go_wp2_with fail
      go_ret
      exact ⟨by rw [← HS.out]; rfl, BE.out⟩

end Go.Proofs.YtejfjlbnehdgnaaDoor
