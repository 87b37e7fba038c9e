/- What bags do with lists of texts, and with one another. -/
import Derived.Test.YtinonaiolhgklaaBgK
import Derived.Test.YtinonaiolhgklaaBgP
import Derived.StillTailTactics
namespace Go.Proofs.Ytinonaiolhgklaa
open Go.RowKit Go.Maps
open Go.Proofs (encStr)

/-- n texts, one behind the other, behind the address q. -/
def TxtP (w : World) (q : Option Addr) (n : Nat) (T : Nat → ByteArray) : Prop := ∀ k, k < n → ∃ b off, q = some ⟨b, off, none⟩ ∧ b < w.heap.size ∧ ∀ i, i < n → w.cell? ⟨b, off + i, none⟩ = some (.string (T i))
theorem TxtP.ext {w w' : World} {q : Option Addr} {n : Nat} {T : Nat → ByteArray} (h : TxtP w q n T) (hb : Below w.heap.size w w') : TxtP w' q n T := fun k hk => by
  obtain ⟨b, off, h1, h2, h3⟩ := h k hk
  exact ⟨b, off, h1, Nat.lt_of_lt_of_le h2 hb.size, fun i hi => (hb.cell (p := ⟨b, _, none⟩) h2).trans (h3 i hi)⟩
/-- The texts, as a list. -/
def lst (T : Nat → ByteArray) (n : Nat) : List Txt := (List.range n).map fun i => (T i).data.toList
theorem lst_succ (T : Nat → ByteArray) (n : Nat) : lst T (n + 1) = lst T n ++ [(T n).data.toList] := by simp [lst, List.range_succ]
theorem lst_length (T : Nat → ByteArray) (n : Nat) : (lst T n).length = n := by simp [lst]

theorem key_enc (x : Txt) (h : x.length ≤ maxLen) : keyOf Try.prog 9 (encStr x) = some (.string x) := by
  have := Go.WideMaps.keyOf_string_mk (P := Try.prog) Try.underlying9 (s := ⟨x.toArray⟩) (by show x.toArray.size ≤ _; simpa using h)
  simpa [encStr] using this

theorem wp_next {w : World} {ops : Array Oper} {rest : List Oper} {o : Oper} {a : Act} {Q : Exit → Act → World → Prop} (hg : o.guard = none) (it : Operand) (hop : o.op = Op.next it false) (b r n : Nat) (D : DataW Unit) (L : List Txt) (hD : BagD D L) (left : Lit → Bool) (cnt : Nat)
    (hit : a.eval it = .pointer (some ⟨r, 0, none⟩)) (h : w.ranges Try.prog 9 (plainElem Try.prog 3) b r n D left cnt)
    (hDone : (∀ kl, left kl = false) → wpList Try.prog ops Q rest (a.put o.dst (.tuple #[.bool false])) w)
    (hMore : ∀ (x : Txt) (w' : World) (cnt' : Nat), x ∈ L → x.length ≤ maxLen → left (.string x) = true → w'.ranges Try.prog 9 (plainElem Try.prog 3) b r n D (fun z => left z && !z.sameKey (.string x)) cnt' → cnt' < cnt →
      w.grownBy w' (some r) → (Instr.entry (.pointer (some ⟨r, 0, none⟩))).run Try.prog w' = .ok (.tuple #[.string ⟨x.toArray⟩, .int .i64 (L.count x : Int)]) w' → wpList Try.prog ops Q rest (a.put o.dst (.tuple #[.bool true, .string ⟨x.toArray⟩, .int .i64 (L.count x : Int)])) w') :
    wpList Try.prog ops Q (o :: rest) a w :=
  wpList_next_ranges w hg it hop 9 Try.law (plainElem Try.prog 3) encStr (Value.int .i64) (fun key kl hk => by obtain ⟨x, hx, _⟩ := Maps.keyOf_str Try.underlying9 hk; exact ⟨x, hx⟩) (fun v y hv => by obtain ⟨c, rfl, _⟩ := plainElem_int_inv Try.underlying3 hv; exact ⟨c, rfl⟩)
    b r n D left cnt hit h (fun _ hl => hDone hl) fun x c kl y w' cnt' hkey hlk hv hat hrg hlt hgr _ hen => by
      obtain ⟨x', ex, rfl, hxl⟩ := Maps.keyOf_str Try.underlying9 hkey
      obtain rfl : x = x' := encStr_inj ex
      obtain ⟨c', ec, rfl, _⟩ := plainElem_int_inv Try.underlying3 hv
      cases ec
      have hx : x ∈ L := by have := has_true_of_atKey hat; rw [hD.has] at this; simpa using this
      have hc : c = (L.count x : Int) := by have := (hat .nil).symm.trans (hD.at_ x .nil hx); simpa using this
      subst hc
      exact hMore x w' cnt' hx hxl hlk hrg hlt hgr hen

theorem ranges_keep {S : Nat → Prop} {w w' : World} {b r n : Nat} {D : DataW Unit} {left : Lit → Bool} {cnt : Nat} (h : w.ranges Try.prog 9 (plainElem Try.prog 3) b r n D left cnt) (o : Out S w w') (hb : ¬ S b) (hr : ¬ S r) : w'.ranges Try.prog 9 (plainElem Try.prog 3) b r n D left cnt := by
  have h1 := h.owns.lt
  have h2 := h.lt
  obtain ⟨es, clock, since, seen, c0, hb', F, hs, hD, hr', rest⟩ := h
  exact ⟨es, clock, since, seen, c0, (o.block b h1 hb).trans hb', F, hs, hD, (o.block r h2 hr).trans hr', rest⟩

/-- Where the entries that are no longer to come have been done with. -/
theorem left_start {D : DataW Unit} {L : List Txt} (hD : BagD D L) (s : Txt) : Maps.has D (.string s) = decide (s ∈ L) := hD.has s
theorem left_step (left : Lit → Bool) (x s : Txt) : (left (.string s) && !(Lit.string s).sameKey (.string x)) = (left (.string s) && decide (s ≠ x)) := by
  congr 1
  by_cases e : s = x
  · subst e; simp [Lit.sameKey]
  · simp [Lit.sameKey, e]

set_option maxRecDepth 100000 in
theorem of_any (q : Option Addr) (n cap : Nat) (T : Nat → ByteArray) (w : World) (hT : TxtP w q n T) (hn : n ≤ 9223372036854775806) (hs : ∀ i, i < n → (T i).size ≤ 9223372036854775807) :
    Calls Try.prog 10 #[.slice q n cap] w fun e w' => ∃ p m, e = .returned (.pointer (some ⟨p, 0, none⟩)) ∧ BagP w' p m n (lst T n).reverse ∧ Below w.heap.size w w' ∧ w.heap.size ≤ p ∧ w.heap.size ≤ m := by
  go_enter Try.func10, Try.ntmps10
  go_wp2_with fail
  refine (new_any w).mono ?_
  rintro e w1 ⟨p, m, rfl, hB, hb1, hp, hm⟩
  go_wp2_with fail
  go_loopw [9] (fun vi wr => ∃ k : Nat, vi = .int .i64 k ∧ k ≤ n ∧ Hid (BagP wr p m k (lst T k).reverse ∧ Below w.heap.size w wr)) (fun vi _ => n - (intOf vi).toNat)
  case atStart => exact ⟨0, rfl, Nat.zero_le _, ⟨hB, hb1⟩⟩
  case round =>
    obtain ⟨k, rfl, hk, HH⟩ := hrel
    clear hB hb1
    by_cases hlt : k < n
    · obtain ⟨b, off, rfl, hb, hc⟩ := hT k hlt
      have c0 := (HH.out.2.cell (p := ⟨b, _, none⟩) hb).trans (hc k hlt)
      clear hc
      have hll : (lst T k).reverse.length < 9223372036854775807 := by rw [List.length_reverse, lst_length]; omega
      go_wp2_with fail
      refine (bagAdd_any p m k _ (T k) wr (hs k hlt) hll (by omega) HH.out.1).mono ?_
      rintro e w2 ⟨rfl, h1, h2⟩
      go_wp2
      go_roundw
      case rel =>
        refine ⟨k + 1, by go_num, hlt, ⟨?_, HH.out.2.trans (h2.below HH.out.2.size fun j hj => by rcases hj with rfl | rfl <;> assumption)⟩⟩
        rw [lst_succ, List.reverse_append]
        exact h1
      case measure => simp [intOf]; omega
    · have hkn : k = n := by omega
      subst hkn
      go_wp2
      go_ret
      exact ⟨p, m, rfl, HH.out.1, HH.out.2, hp, hm⟩

set_option maxRecDepth 100000 in
theorem within_any (pa ma Na pb mb Nb : Nat) (A B : List Txt) (w : World) (hA : BagP w pa ma Na A) (hB : BagP w pb mb Nb B) :
    Calls Try.prog 25 #[.pointer (some ⟨pa, 0, none⟩), .pointer (some ⟨pb, 0, none⟩)] w fun e w' => e = .returned (.bool (within A B)) ∧ Below w.heap.size w w' := by
  have c0 := hA.c0
  have la := hA.lt
  have lb := hB.lt
  have lma := hA.ltm
  have lmb := hB.ltm
  obtain ⟨DA, ownA, hDA⟩ := hA.own
  go_enter Try.func25, Try.ntmps25
  go_wp2_with (first
    | (at_range; refine wpList_range_own _ rfl _ 46 rfl 9 3 Try.law Try.underlying46 _ ma Na DA rfl ownA ?_; intro w0 hrg0 hg0 hs0))
  go_frame
  have HR := Lib.hid hrg0
  have HG := Lib.hid hg0
  clear hrg0 hg0 hs0 c0
  go_loopw [5, 6] (fun _ _ wr => ∃ (left : Lit → Bool) (cnt : Nat), wr.ranges Try.prog 9 (plainElem Try.prog 3) ma w.heap.size Na DA left cnt ∧ Hid (Below w.heap.size w wr ∧ ∀ s, s ∈ A → left (.string s) = false → A.count s ≤ B.count s)) (fun _ _ wr => wr.rangeLeft ma w.heap.size)
  case atStart => exact ⟨_, _, HR.out, ⟨(Below.refl _ _).grown HG.out (Nat.le_refl _) (fun k hk => by cases hk), fun s hs h => by rw [hDA.has s] at h; simp [hs] at h⟩⟩
  case round =>
    obtain ⟨left, cnt, hrg, HH⟩ := hrel
    go_wp2_with (first
      | (at_next; refine wp_next rfl _ rfl ma w.heap.size Na DA A hDA left cnt rfl hrg ?_ ?_))
    · intro hl0
      go_wp2
      go_ret
      have hw : within A B = true := within_iff.2 fun s => by
        by_cases e : s ∈ A
        · exact HH.out.2 s e (hl0 _)
        · rw [List.count_eq_zero.2 e]; omega
      rw [hw]
      exact ⟨rfl, HH.out.1⟩
    · intro x w1 cnt1 hx hxl hlx hrg1 hlt hg1 hen
      have b1 : Below w.heap.size w w1 := HH.out.1.grown hg1 HH.out.1.size (fun k hk => by cases hk; exact Nat.le_refl _)
      have hB1 := hB.ext b1
      have c1 := hB1.c0
      obtain ⟨DB, ownB, hDB⟩ := hB1.own
      have HB := Lib.hid b1
      clear b1 hg1
      by_cases hcc : B.count x < A.count x
      · have hz : (B.count x : Int) < (A.count x : Int) := by omega
        go_wp2_with (first
          | (at_lookup; refine wpList_lookup_own_int _ rfl _ _ 46 rfl 9 3 .i64 Try.law Try.underlying46 Try.underlying3 (Try.zeroInt _) mb Nb DB rfl ownB _ _ rfl (key_enc x hxl) ?_; intro c hat hwc; rw [hDB.get] at hat; obtain rfl : c = (B.count x : Int) := by simpa using hat.symm))
        go_ret
        have hw : within A B = false := by
          cases e : within A B
          · rfl
          · have := within_iff.1 e x; omega
        rw [hw]
        exact ⟨rfl, HB.out⟩
      · have hz : ¬ (B.count x : Int) < (A.count x : Int) := by omega
        go_wp2_with (first
          | (at_lookup; refine wpList_lookup_own_int _ rfl _ _ 46 rfl 9 3 .i64 Try.law Try.underlying46 Try.underlying3 (Try.zeroInt _) mb Nb DB rfl ownB _ _ rfl (key_enc x hxl) ?_; intro c hat hwc; rw [hDB.get] at hat; obtain rfl : c = (B.count x : Int) := by simpa using hat.symm))
        go_roundw
        case rel =>
          refine ⟨_, cnt1, hrg1, ⟨HB.out, fun s hs h => ?_⟩⟩
          rw [left_step] at h
          by_cases e : s = x
          · subst e; omega
          · exact HH.out.2 s hs (by simpa [e] using h)
        case measure => rw [hrg1.left_eq, hrg.left_eq]; exact hlt

end Go.Proofs.Ytinonaiolhgklaa
