/- Two bags together, the one without the other, and whether they are the same. -/
import Derived.Test.YtinonaiolhgklaaBgL
namespace Go.Proofs.Ytinonaiolhgklaa
open Go.RowKit Go.Maps
open Go.Proofs (encStr)

theorem Out.new {S : Nat → Prop} {a b c : World} {r : Nat} (h : Out S a b) (hg : b.grownBy c (some r)) (hr : a.heap.size ≤ r) : Out S a c :=
  ⟨hg.os.trans h.os, hg.tape.trans h.tape, hg.output.trans h.output, Nat.le_trans h.size hg.size, fun k hk hn => (hg.block k (Nat.lt_of_lt_of_le hk h.size) (by simp; omega)).trans (h.block k hk hn)⟩
theorem Out.one {a b : World} {r : Nat} (hg : a.grownBy b (some r)) : Out (fun k => k = r) a b := Out.grown hg fun k hk => by simpa using hk.symm

theorem size_keys {w : World} {m N : Nat} {D : DataW Unit} (h : w.ownsMap Try.prog 9 (plainElem Try.prog 3) m N D) : Maps.size D = (strKeys D).length := by
  obtain ⟨es, rfl, _⟩ := h.entries Try.law
  simp [strKeys, Maps.size]
theorem keys_mem {w : World} {m N : Nat} {D : DataW Unit} {A : List Txt} (h : w.ownsMap Try.prog 9 (plainElem Try.prog 3) m N D) (hD : BagD D A) (s : Txt) : s ∈ strKeys D ↔ s ∈ A := by
  rw [(keys_of h).2 s, hD.has s]; simp
theorem keys_size {w : World} {m N : Nat} {D : DataW Unit} {A : List Txt} (h : w.ownsMap Try.prog 9 (plainElem Try.prog 3) m N D) (hD : BagD D A) : Maps.size D ≤ A.length := by
  rw [size_keys h]
  refine length_of_counts fun s => ?_
  by_cases e : s ∈ strKeys D
  · rw [(keys_of h).1.count, if_pos e]
    exact List.count_pos_iff.2 ((keys_mem h hD s).1 e)
  · rw [List.count_eq_zero.2 e]; omega

set_option maxRecDepth 100000 in
set_option maxHeartbeats 1000000 in
theorem putAll_any (po mo No pa ma Na : Nat) (O A : List Txt) (w : World) (hO : BagP w po mo No O) (hA : BagP w pa ma Na A) (hm : ma ≠ mo) (hlen : O.length + A.length ≤ 9223372036854775807) (hN : No + A.length < 9223372036854775807) :
    Calls Try.prog 34 #[.pointer (some ⟨po, 0, none⟩), .agg #[.map (some ma), .int .i64 (A.length : Int)]] w fun e w' => e = .returned (.tuple #[]) ∧ (∃ O', BagP w' po mo (No + A.length) O' ∧ ∀ s, O'.count s = O.count s + A.count s) ∧ Out (Two po mo) w w' := by
  have la := hA.lt
  have lo := hO.lt
  have lma := hA.ltm
  have lmo := hO.ltm
  have hx1 : ma ≠ po := by
    obtain ⟨D, ⟨es, clock, h1, _⟩, _⟩ := hA.own
    intro e
    have := hO.blk
    rw [← e, h1] at this
    cases this
  obtain ⟨DA, ownA, hDA⟩ := hA.own
  have e1 : ∀ o : Obj, (w.alloc o).heap.size = w.heap.size + 1 := fun o => by simp
  go_enter Try.func34, Try.ntmps34
  go_wp2_with (first
    | (at_range; refine wpList_range_own _ rfl _ 46 rfl 9 3 Try.law Try.underlying46 _ ma Na DA rfl (ownA.alloc _) ?_; intro w0 hrg0 hg0 hs0))
  go_frame
  rw [e1] at hrg0 ⊢
  have HR := Lib.hid hrg0
  have HG := Lib.hid hg0
  clear hrg0 hg0 hs0
  have start : Out (Two po mo) w w0 := (Out.alloc w _).trans (Out.grown HG.out (fun k hk => by cases hk))
  have HS := Lib.hid start
  clear start
  have hszA := keys_size ownA hDA
  go_loopw [4, 5] (fun _ _ wr => ∃ (left : Lit → Bool) (cnt N' : Nat) (O' : List Txt), wr.ranges Try.prog 9 (plainElem Try.prog 3) ma (w.heap.size + 1) Na DA left cnt ∧ Hid (BagP wr po mo N' O' ∧ N' + cnt ≤ No + A.length ∧ Out (Two po mo) w wr ∧ ∀ s, O'.count s = O.count s + if left (.string s) then 0 else A.count s)) (fun _ _ wr => wr.rangeLeft ma (w.heap.size + 1))
  case atStart =>
    refine ⟨_, _, No, O, HR.out, ⟨hO.keep (S := fun _ => False) ⟨HS.out.os, HS.out.tape, HS.out.output, HS.out.size, fun k hk _ => ?_⟩ id id, by omega, HS.out, fun s => ?_⟩⟩
    · rw [HG.out.block k (by simp; omega) (by simp), Below.heap_alloc _ _ _ hk]
    · rw [hDA.has s]
      by_cases e : s ∈ A
      · simp [e]
      · simp [e, List.count_eq_zero.2 e]
  case round =>
    obtain ⟨left, cnt, N', O', hrg, HH⟩ := hrel
    have hsub : ∀ s, O'.count s ≤ (O ++ A).count s := fun s => by
      rw [HH.out.2.2.2 s, List.count_append]
      split <;> omega
    have HU := Lib.hid hsub
    clear hsub
    go_wp2_with (first
      | (at_next; refine wp_next rfl _ rfl ma (w.heap.size + 1) Na DA A hDA left cnt rfl hrg ?_ ?_))
    · intro hl0
      go_wp2
      go_end0
      refine ⟨rfl, ⟨O', HH.out.1.mono (by have := HH.out.2.1; omega), fun s => ?_⟩, HH.out.2.2.1⟩
      rw [HH.out.2.2.2 s, hl0]
      simp
    · intro x w1 cnt1 hx hxl hlx hrg1 hlt hg1 hen
      have o1 : Out (Two po mo) w w1 := HH.out.2.2.1.new hg1 (by omega)
      have hB1 : BagP w1 po mo N' O' := HH.out.1.keep (Out.one hg1) (by omega) (by omega)
      have hpos : 0 < A.count x := List.count_pos_iff.2 hx
      have hcx : O'.count x = O.count x := by rw [HH.out.2.2.2 x, hlx]; simp
      have hle : (List.replicate (A.count x) x ++ O').length ≤ (O ++ A).length := length_of_counts fun s => by
        have h := HH.out.2.2.2 s
        by_cases e : s = x
        · subst e
          rw [List.count_append, List.count_append, List.count_replicate_self, hcx]
          omega
        · rw [List.count_append, List.count_append, List.count_replicate, if_neg (by simpa using fun k => e k.symm), h]
          split <;> omega
      rw [List.length_append, List.length_append, List.length_replicate] at hle
      have HB := Lib.hid hB1
      have HO1 := Lib.hid o1
      have HC := Lib.hid hcx
      clear o1 hcx hg1
      go_wp2_with fail
      refine (put_any po mo N' O' ⟨x.toArray⟩ (A.count x) w1 (by show x.toArray.size ≤ _; unfold maxLen at hxl; simp; omega) hpos (by omega) (by have := HH.out.2.1; omega) HB.out).mono ?_
      rintro e w2 ⟨rfl, hB2, o2⟩
      have hB2 : BagP w2 po mo (N' + 1) (List.replicate (A.count x) x ++ O') := hB2
      have hrg2 := ranges_keep hrg1 o2 (by rintro (h | h) <;> omega) (by rintro (h | h) <;> omega)
      go_wp2
      go_roundw
      case rel =>
        refine ⟨_, cnt1, N' + 1, _, hrg2, ⟨hB2, by have := HH.out.2.1; omega, HO1.out.trans o2, fun s => ?_⟩⟩
        rw [left_step, List.count_append, HH.out.2.2.2 s]
        by_cases e : s = x
        · subst e
          rw [List.count_replicate_self, hlx]
          simp
          omega
        · rw [List.count_replicate, if_neg (by simpa using fun k => e k.symm)]
          simp [e]
      case measure => rw [hrg2.left_eq, hrg.left_eq]; exact hlt

set_option maxRecDepth 100000 in
set_option maxHeartbeats 1000000 in
theorem both_any (pa ma Na pb mb Nb : Nat) (A B : List Txt) (w : World) (hA : BagP w pa ma Na A) (hB : BagP w pb mb Nb B) (hlen : A.length + B.length < 9223372036854775807) :
    Calls Try.prog 19 #[.pointer (some ⟨pa, 0, none⟩), .pointer (some ⟨pb, 0, none⟩)] w fun e w' => ∃ p m C, e = .returned (.pointer (some ⟨p, 0, none⟩)) ∧ BagP w' p m (A.length + B.length) C ∧ (∀ s, C.count s = A.count s + B.count s) ∧ Below w.heap.size w w' ∧ w.heap.size ≤ p ∧ w.heap.size ≤ m := by
  go_enter Try.func19, Try.ntmps19
  go_wp2_with fail
  refine (new_any w).mono ?_
  rintro e w1 ⟨p, m, rfl, hC, hb1, hp, hm⟩
  have la := hA.lt
  have lma := hA.ltm
  have lb := hB.lt
  have lmb := hB.ltm
  have hA1 := hA.ext hb1
  have hB1 := hB.ext hb1
  have c0 := hA1.c0
  have c1 := hA1.c1
  go_wp2_with fail
  go_still_tail 7, (by kernel_rfl)
  change wpList _ _ _ _ _ w1.drew
  have hA2 : BagP w1.drew pa ma Na A := hA1.ext (Below.refl _ _).drew
  have hB2 : BagP w1.drew pb mb Nb B := hB1.ext (Below.refl _ _).drew
  have hC2 : BagP w1.drew p m 0 [] := hC.ext (Below.refl _ _).drew
  have hb2 : Below w.heap.size w w1.drew := hb1.drew
  clear c0 c1 hA1 hB1 hC hb1
  generalize w1.drew = w2 at hA2 hB2 hC2 hb2 ⊢
  go_wp2_with fail
  refine (putAll_any p m 0 pa ma Na [] A w2 hC2 hA2 (by omega) (by simp; omega) (by omega)).mono ?_
  rintro e w3 ⟨rfl, ⟨C1, hC3, hc3⟩, o3⟩
  have hB3 := hB2.keep o3 (by rintro (h | h) <;> omega) (by rintro (h | h) <;> omega)
  have hb3 := hb2.trans (o3.below hb2.size (fun k hk => by rcases hk with rfl | rfl <;> assumption))
  have c0 := hB3.c0
  have c1 := hB3.c1
  have hl3 : C1.length = A.length := by
    have h1 := length_of_counts (A := C1) (B := A) (fun s => by rw [hc3 s]; simp)
    have h2 := length_of_counts (A := A) (B := C1) (fun s => by rw [hc3 s]; simp)
    omega
  have HL := Lib.hid hl3
  have HC3 := Lib.hid hc3
  clear hA2 hB2 hC2 hb2 o3 hl3 hc3
  go_wp2_with fail
  go_still_tail 7, (by kernel_rfl)
  change wpList _ _ _ _ _ w3.drew
  have hB4 : BagP w3.drew pb mb Nb B := hB3.ext (Below.refl _ _).drew
  have hC4 : BagP w3.drew p m (0 + A.length) C1 := hC3.ext (Below.refl _ _).drew
  have hb4 : Below w.heap.size w w3.drew := hb3.drew
  clear c0 c1 hB3 hC3 hb3
  generalize w3.drew = w4 at hB4 hC4 hb4 ⊢
  go_wp2_with fail
  refine (putAll_any p m (0 + A.length) pb mb Nb C1 B w4 hC4 hB4 (by omega) (by have := HL.out; omega) (by omega)).mono ?_
  rintro e w5 ⟨rfl, ⟨C2, hC5, hc5⟩, o5⟩
  go_wp2
  go_ret
  refine ⟨p, m, C2, rfl, hC5.mono (by omega), fun s => ?_, hb4.trans (o5.below hb4.size (fun k hk => by rcases hk with rfl | rfl <;> assumption)), hp, hm⟩
  rw [hc5 s, HC3.out s]
  simp

set_option maxRecDepth 100000 in
set_option maxHeartbeats 1000000 in
theorem less_any (pa ma Na pb mb Nb : Nat) (A B : List Txt) (w : World) (hA : BagP w pa ma Na A) (hB : BagP w pb mb Nb B) (hlen : A.length < 9223372036854775807) (hlenB : B.length ≤ 9223372036854775807) :
    Calls Try.prog 21 #[.pointer (some ⟨pa, 0, none⟩), .pointer (some ⟨pb, 0, none⟩)] w fun e w' => ∃ p m C, e = .returned (.pointer (some ⟨p, 0, none⟩)) ∧ BagP w' p m A.length C ∧ (∀ s, C.count s = A.count s - B.count s) ∧ Below w.heap.size w w' ∧ w.heap.size ≤ p ∧ w.heap.size ≤ m := by
  have la := hA.lt
  have lma := hA.ltm
  have lb := hB.lt
  have lmb := hB.ltm
  go_enter Try.func21, Try.ntmps21
  go_wp2_with fail
  refine (new_any w).mono ?_
  rintro e w1 ⟨p, m, rfl, hC, hb1, hp, hm⟩
  have hA1 := hA.ext hb1
  have hB1 := hB.ext hb1
  have c0 := hA1.c0
  have lp := hC.lt
  have lm := hC.ltm
  obtain ⟨DA, ownA, hDA⟩ := hA1.own
  have hszA := keys_size ownA hDA
  go_wp2_with (first
    | (at_range; refine wpList_range_own _ rfl _ 46 rfl 9 3 Try.law Try.underlying46 _ ma Na DA rfl ownA ?_; intro w0 hrg0 hg0 hs0))
  go_frame
  have HR := Lib.hid hrg0
  have HG := Lib.hid hg0
  have HC := Lib.hid hC
  have HB := Lib.hid hB1
  have Hb := Lib.hid hb1
  clear hrg0 hg0 hs0 c0 hC hB1 hb1
  obtain ⟨r, hr⟩ : ∃ r, r = w1.heap.size := ⟨_, rfl⟩
  have HRR := Lib.hid hr
  have lr1 : p < r := by omega
  have lr2 : m < r := by omega
  have lr3 : w.heap.size ≤ r := by omega
  rw [← hr] at HR ⊢
  clear hr
  go_loopw [6, 7, 8] (fun _ _ _ wr => ∃ (left : Lit → Bool) (cnt N' : Nat) (C : List Txt), wr.ranges Try.prog 9 (plainElem Try.prog 3) ma r Na DA left cnt ∧ Hid (BagP wr p m N' C ∧ N' + cnt ≤ A.length ∧ BagP wr pb mb Nb B ∧ Below w.heap.size w wr ∧ ∀ s, C.count s = if left (.string s) then 0 else A.count s - B.count s)) (fun _ _ _ wr => wr.rangeLeft ma r)
  case atStart =>
    have b0 : Below w1.heap.size w1 w0 := (Below.refl _ _).grown HG.out (Nat.le_refl _) (fun k hk => by cases hk)
    refine ⟨_, _, 0, [], HR.out, ⟨HC.out.ext b0, by omega, HB.out.ext b0, Hb.out.trans (b0.mono Hb.out.size), fun s => ?_⟩⟩
    rw [hDA.has s]
    by_cases e : s ∈ A
    · simp [e]
    · simp [e, List.count_eq_zero.2 e]
  case round =>
    obtain ⟨left, cnt, N', C, hrg, HH⟩ := hrel
    go_wp2_with (first
      | (at_next; refine wp_next rfl _ rfl ma r Na DA A hDA left cnt rfl hrg ?_ ?_))
    · intro hl0
      go_wp2
      go_ret
      refine ⟨p, m, C, rfl, HH.out.1.mono (by have := HH.out.2.1; omega), fun s => ?_, HH.out.2.2.2.1, hp, hm⟩
      rw [HH.out.2.2.2.2 s, hl0]
      simp
    · intro x w3 cnt1 hx hxl hlx hrg1 hlt hg1 hen
      have hC1 : BagP w3 p m N' C := HH.out.1.keep (Out.one hg1) (by omega) (by omega)
      have hB3 : BagP w3 pb mb Nb B := HH.out.2.2.1.keep (Out.one hg1) (by omega) (by omega)
      have b3 : Below w.heap.size w w3 := HH.out.2.2.2.1.grown hg1 HH.out.2.2.2.1.size (fun k hk => by cases hk; exact lr3)
      have c1 := hB3.c0
      obtain ⟨DB, ownB, hDB⟩ := hB3.own
      have hpos : 0 < A.count x := List.count_pos_iff.2 hx
      have hcx : C.count x = 0 := by rw [HH.out.2.2.2.2 x, hlx]; simp
      have HB3 := Lib.hid hB3
      have Hb3 := Lib.hid b3
      have HC1 := Lib.hid hC1
      have HX := Lib.hid hcx
      clear b3 hg1 hB3 hC1 hcx
      have hca : A.count x ≤ A.length := List.count_le_length
      have hcb : B.count x ≤ B.length := List.count_le_length
      by_cases hcc : B.count x < A.count x
      · have hz : (0 : Int) < (A.count x : Int) - (B.count x : Int) := by omega
        obtain ⟨d, hd⟩ : ∃ d, d = A.count x - B.count x := ⟨_, rfl⟩
        have hzd : (A.count x : Int) - (B.count x : Int) = (d : Int) := by omega
        have hle : (List.replicate d x ++ C).length ≤ A.length := length_of_counts fun s => by
          have h := HH.out.2.2.2.2 s
          by_cases e : s = x
          · subst e
            rw [List.count_append, List.count_replicate_self, HX.out]
            omega
          · rw [List.count_append, List.count_replicate, if_neg (by simpa using fun k => e k.symm), h]
            split <;> omega
        rw [List.length_append, List.length_replicate] at hle
        have HDD := Lib.hid hd
        have hd0 : 0 < d := by omega
        clear hd
        rw [hzd] at hz
        go_wp2_with (first
          | (at_lookup; refine wpList_lookup_own_int _ rfl _ _ 46 rfl 9 3 .i64 Try.law Try.underlying46 Try.underlying3 (Try.zeroInt _) mb Nb DB rfl ownB _ _ rfl (key_enc x hxl) ?_; intro c hat hwc; rw [hDB.get] at hat; obtain rfl : c = (B.count x : Int) := by simpa using hat.symm))
        refine (put_any p m N' C ⟨x.toArray⟩ d w3 (by show x.toArray.size ≤ _; unfold maxLen at hxl; simp; omega) hd0 (by omega) (by have := HH.out.2.1; omega) HC1.out).mono ?_
        rintro e w4 ⟨rfl, hC4, o4⟩
        have hC4 : BagP w4 p m (N' + 1) (List.replicate d x ++ C) := hC4
        have hrg2 := ranges_keep hrg1 o4 (by rintro (h | h) <;> omega) (by rintro (h | h) <;> omega)
        have hB4 := HB3.out.keep o4 (by rintro (h | h) <;> omega) (by rintro (h | h) <;> omega)
        go_wp2
        go_roundw
        case rel =>
          refine ⟨_, cnt1, N' + 1, _, hrg2, ⟨hC4, by have := HH.out.2.1; omega, hB4, Hb3.out.trans (o4.below Hb3.out.size (fun k hk => by rcases hk with rfl | rfl <;> assumption)), fun s => ?_⟩⟩
          rw [left_step, List.count_append, HH.out.2.2.2.2 s]
          by_cases e : s = x
          · subst e
            rw [List.count_replicate_self, hlx]
            simp
            exact HDD.out
          · rw [List.count_replicate, if_neg (by simpa using fun k => e k.symm)]
            simp [e]
        case measure => rw [hrg2.left_eq, hrg.left_eq]; exact hlt
      · have hz : ¬ (0 : Int) < (A.count x : Int) - (B.count x : Int) := by omega
        have hz' : ¬ (B.count x : Int) < (A.count x : Int) := by omega
        go_wp2_with (first
          | (at_lookup; refine wpList_lookup_own_int _ rfl _ _ 46 rfl 9 3 .i64 Try.law Try.underlying46 Try.underlying3 (Try.zeroInt _) mb Nb DB rfl ownB _ _ rfl (key_enc x hxl) ?_; intro c hat hwc; rw [hDB.get] at hat; obtain rfl : c = (B.count x : Int) := by simpa using hat.symm))
        go_roundw
        case rel =>
          refine ⟨_, cnt1, N', C, hrg1, ⟨HC1.out, by have := HH.out.2.1; omega, HB3.out, Hb3.out, fun s => ?_⟩⟩
          rw [left_step, HH.out.2.2.2.2 s]
          by_cases e : s = x
          · subst e
            simp [hlx]
            omega
          · simp [e]
        case measure => rw [hrg1.left_eq, hrg.left_eq]; exact hlt

theorem same_sizes {w : World} {ma Na mb Nb : Nat} {DA DB : DataW Unit} {A B : List Txt} (hA : w.ownsMap Try.prog 9 (plainElem Try.prog 3) ma Na DA) (hB : w.ownsMap Try.prog 9 (plainElem Try.prog 3) mb Nb DB) (hDA : BagD DA A) (hDB : BagD DB B) (h : A.Perm B) : Maps.size DA = Maps.size DB := by
  rw [size_keys hA, size_keys hB]
  exact ((List.perm_ext_iff_of_nodup (keys_of hA).1 (keys_of hB).1).2 fun s => by rw [keys_mem hA hDA, keys_mem hB hDB]; exact h.mem_iff).length_eq
theorem same_of_keys {w : World} {ma Na mb Nb : Nat} {DA DB : DataW Unit} {A B : List Txt} (hA : w.ownsMap Try.prog 9 (plainElem Try.prog 3) ma Na DA) (hB : w.ownsMap Try.prog 9 (plainElem Try.prog 3) mb Nb DB) (hDA : BagD DA A) (hDB : BagD DB B)
    (hs : Maps.size DA = Maps.size DB) (h : ∀ s, s ∈ A → s ∈ B ∧ A.count s = B.count s) : same A B = true := by
  rw [size_keys hA, size_keys hB] at hs
  refine same_iff.2 fun s => ?_
  by_cases e : s ∈ A
  · exact (h s e).2
  · have hb : s ∉ B := fun k => e ((keys_mem hA hDA s).1 (sub_of_nodup (keys_of hA).1 (fun x hx => (keys_mem hB hDB x).2 (h x ((keys_mem hA hDA x).1 hx)).1) (by omega) s ((keys_mem hB hDB s).2 k)))
    rw [List.count_eq_zero.2 e, List.count_eq_zero.2 hb]

set_option maxRecDepth 100000 in
set_option maxHeartbeats 1000000 in
theorem equal_any (pa ma Na pb mb Nb : Nat) (A B : List Txt) (w : World) (hA : BagP w pa ma Na A) (hB : BagP w pb mb Nb B) :
    Calls Try.prog 35 #[.map (some ma), .map (some mb)] w fun e w' => e = .returned (.bool (same A B)) ∧ Below w.heap.size w w' := by
  have la := hA.lt
  have lma := hA.ltm
  have lb := hB.lt
  have lmb := hB.ltm
  obtain ⟨DA, ownA, hDA⟩ := hA.own
  obtain ⟨DB, ownB, hDB⟩ := hB.own
  by_cases hsz : Maps.size DA = Maps.size DB
  · have HSZ := Lib.hid hsz
    have hzz : ((Maps.size DA : Nat) : Int) = ((Maps.size DB : Nat) : Int) := by omega
    obtain ⟨zb, hzb⟩ : ∃ z, z = Maps.size DB := ⟨_, rfl⟩
    have HA := Lib.hid ownA
    have HB := Lib.hid ownB
    clear hsz
    go_enter Try.func35, Try.ntmps35
    go_wp2_with (first
      | (at_len; refine wpList_len_own _ rfl _ 46 rfl 9 3 Try.underlying46 _ ma Na DA rfl ownA ?_)
      | (at_len; refine wpList_len_own _ rfl _ 46 rfl 9 3 Try.underlying46 _ mb Nb DB rfl ownB ?_)
      | (at_range; refine wpList_range_own _ rfl _ 46 rfl 9 3 Try.law Try.underlying46 _ ma Na DA rfl ownA ?_; intro w0 hrg0 hg0 hs0))
    go_frame
    have HR := Lib.hid hrg0
    have HG := Lib.hid hg0
    clear hrg0 hg0 hs0 hzz ownA ownB
    go_loopw [5, 6] (fun _ _ wr => ∃ (left : Lit → Bool) (cnt : Nat), wr.ranges Try.prog 9 (plainElem Try.prog 3) ma w.heap.size Na DA left cnt ∧ Hid (Below w.heap.size w wr ∧ ∀ s, s ∈ A → left (.string s) = false → s ∈ B ∧ A.count s = B.count s)) (fun _ _ wr => wr.rangeLeft ma w.heap.size)
    case atStart => exact ⟨_, _, HR.out, ⟨(Below.refl _ _).grown HG.out (Nat.le_refl _) (fun k hk => by cases hk), fun s hs h => by rw [hDA.has s] at h; simp [hs] at h⟩⟩
    case round =>
      obtain ⟨left, cnt, hrg, HH⟩ := hrel
      go_wp2_with (first
        | (at_next; refine wp_next rfl _ rfl ma w.heap.size Na DA A hDA left cnt rfl hrg ?_ ?_))
      · intro hl0
        go_wp2
        go_ret
        have hw : same A B = true := same_of_keys HA.out HB.out hDA hDB HSZ.out fun s hs => HH.out.2 s hs (hl0 _)
        rw [hw]
        exact ⟨rfl, HH.out.1⟩
      · intro x w1 cnt1 hx hxl hlx hrg1 hlt hg1 hen
        have b1 : Below w.heap.size w w1 := HH.out.1.grown hg1 HH.out.1.size (fun k hk => by cases hk; exact Nat.le_refl _)
        have hB1 := hB.ext b1
        obtain ⟨DB1, ownB1, hDB1⟩ := hB1.own
        have hhas := hDB1.has x
        have HBB := Lib.hid b1
        clear b1 hg1
        by_cases hcc : x ∈ B ∧ A.count x = B.count x
        · have hmem := hcc.1
          have hce : ((A.count x : Nat) : Int) = ((B.count x : Nat) : Int) := by omega
          simp only [hmem, decide_true] at hhas
          have HCC := Lib.hid hcc
          clear hcc
          go_wp2_with (first
            | (at_lookup; refine wpList_lookup_own_ok_int _ rfl _ _ 46 rfl 9 3 .i64 Try.law Try.underlying46 Try.underlying3 (Try.zeroInt _) mb Nb DB1 rfl ownB1 _ _ rfl (key_enc x hxl) ?_; intro c hat hwc; rw [hDB1.get] at hat; obtain rfl : c = (B.count x : Int) := by simpa using hat.symm))
          go_roundw
          case rel =>
            refine ⟨_, cnt1, hrg1, ⟨HBB.out, fun s hs h => ?_⟩⟩
            rw [left_step] at h
            by_cases e : s = x
            · subst e; exact HCC.out
            · exact HH.out.2 s hs (by simpa [e] using h)
          case measure => rw [hrg1.left_eq, hrg.left_eq]; exact hlt
        · have hw : same A B = false := by
            cases e : same A B
            · rfl
            · have h := same_iff.1 e
              exact absurd ⟨List.count_pos_iff.1 (by rw [← h x]; exact List.count_pos_iff.2 hx), h x⟩ hcc
          by_cases hmem : x ∈ B
          · have hce : ¬ ((A.count x : Nat) : Int) = ((B.count x : Nat) : Int) := fun k => hcc ⟨hmem, by omega⟩
            simp only [hmem, decide_true] at hhas
            go_wp2_with (first
              | (at_lookup; refine wpList_lookup_own_ok_int _ rfl _ _ 46 rfl 9 3 .i64 Try.law Try.underlying46 Try.underlying3 (Try.zeroInt _) mb Nb DB1 rfl ownB1 _ _ rfl (key_enc x hxl) ?_; intro c hat hwc; rw [hDB1.get] at hat; obtain rfl : c = (B.count x : Int) := by simpa using hat.symm))
            go_ret
            exact ⟨rfl, HBB.out⟩
          · simp only [hmem, decide_false] at hhas
            go_wp2_with (first
              | (at_lookup; refine wpList_lookup_own_ok_int _ rfl _ _ 46 rfl 9 3 .i64 Try.law Try.underlying46 Try.underlying3 (Try.zeroInt _) mb Nb DB1 rfl ownB1 _ _ rfl (key_enc x hxl) ?_; intro c hat hwc; rw [hDB1.get] at hat; obtain rfl : c = (B.count x : Int) := by simpa using hat.symm))
            go_ret
            exact ⟨rfl, HBB.out⟩
  · have hw : same A B = false := by
      cases e : same A B
      · rfl
      · exact absurd (same_sizes ownA ownB hDA hDB (by unfold same at e; simpa using e)) hsz
    have hzz : ¬ ((Maps.size DA : Nat) : Int) = ((Maps.size DB : Nat) : Int) := by omega
    go_enter Try.func35, Try.ntmps35
    go_wp2_with (first
      | (at_len; refine wpList_len_own _ rfl _ 46 rfl 9 3 Try.underlying46 _ ma Na DA rfl ownA ?_)
      | (at_len; refine wpList_len_own _ rfl _ 46 rfl 9 3 Try.underlying46 _ mb Nb DB rfl ownB ?_))
    go_ret
    rw [hw]
    exact ⟨rfl, ext_refl _⟩

set_option maxRecDepth 100000 in
theorem same_any (pa ma Na pb mb Nb : Nat) (A B : List Txt) (w : World) (hA : BagP w pa ma Na A) (hB : BagP w pb mb Nb B) :
    Calls Try.prog 23 #[.pointer (some ⟨pa, 0, none⟩), .pointer (some ⟨pb, 0, none⟩)] w fun e w' => e = .returned (.bool (same A B)) ∧ Below w.heap.size w w' := by
  have c0 := hA.c0
  have c1 := hB.c0
  go_enter Try.func23, Try.ntmps23
  go_wp2_with fail
  go_still_tail 10, (by kernel_rfl)
  change wpList _ _ _ _ _ w.drew
  have hA2 : BagP w.drew pa ma Na A := hA.ext (Below.refl _ _).drew
  have hB2 : BagP w.drew pb mb Nb B := hB.ext (Below.refl _ _).drew
  have hb2 : Below w.heap.size w w.drew := (Below.refl _ _).drew
  clear c0 c1
  generalize w.drew = w2 at hA2 hB2 hb2 ⊢
  go_wp2_with fail
  refine (equal_any pa ma Na pb mb Nb A B w2 hA2 hB2).mono ?_
  rintro e w3 ⟨rfl, hb3⟩
  go_wp2
  go_ret
  exact ⟨rfl, ext_trans hb2 hb3⟩

end Go.Proofs.Ytinonaiolhgklaa
