/- slices.SortStableFunc at rows; row.sorted; row.Sort. -/
import Derived.Test.YtmhcdmebienlpaaSortS
import Derived.Test.YtmhcdmebienlpaaMade
import Derived.Test.YtmhcdmebienlpaaRowOrd
namespace Go.Proofs.Ytmhcdmebienlpaa
open Go.RowKit
open Go.Sort (swp PermIn SortedIn SWO Ins)

theorem sortStable_any (R : Rws) (W0 : World) (g cap : Nat) (d : Array Nat) (w : World) (hok : R.ok W0) (S : SW R W0 g d w) (hsz : d.size ≤ 1073741824) :
    Calls Try.prog 39 #[.slice (some ⟨g, 0, none⟩) d.size cap, .func (.func 22) #[] #[]] w fun e w' => e = .returned (.tuple #[]) ∧ ∃ d', SW R W0 g d' w' ∧ PermIn 0 d.size d d' ∧ SortedIn R.lt 0 d.size d' := by
  go_enter Try.func39, Try.ntmps39
  go_wp2_with fail
  refine (stable_any R W0 g cap d w R.swo hok S hsz).mono ?_
  rintro _ w1 ⟨rfl, d', h⟩
  go_wp2
  go_end0
  exact ⟨rfl, d', h⟩

theorem range_size (n : Nat) : (Array.range n).size = n := by simp

theorem sorted_any (R : Rws) (p : Option Addr) (c : Nat) (w : World) (hok : R.ok w) (hn : R.n ≤ 1073741824) (hp : R.at_ w p) :
    Calls Try.prog 32 #[.slice p R.n c, .func (.func 22) #[] #[]] w fun e w' => e = .returned (.slice (some ⟨w.heap.size, 0, none⟩) R.n R.n) ∧ ∃ d', SW R w w.heap.size d' w' ∧ PermIn 0 R.n (Array.range R.n) d' ∧ SortedIn R.lt 0 R.n d' := by
  obtain ⟨M, hM, hmk⟩ := make_rows R.n (by omega)
  obtain ⟨w1, hap, S⟩ := copy_rows R w M p c 34 hM hn hp
  have HAP := Lib.hid hap
  clear hap
  go_enter Try.func32, Try.ntmps32
  go_wp2_with (at_builtin; refine wp_run_append rfl _ _ _ rfl _ _ _ _ rfl rfl HAP.out ?_)
  have hc := sortStable_any R w w.heap.size R.n (Array.range R.n) w1 hok S (by simp; omega)
  rw [range_size] at hc
  refine hc.mono ?_
  rintro _ w2 ⟨rfl, d', h⟩
  go_wp2
  go_ret
  exact ⟨rfl, d', h⟩

set_option maxRecDepth 100000 in
set_option maxHeartbeats 4000000 in
/-- Sort: row i of what comes is a copy of row (d i), in a block of its own. -/
theorem rowSort_any (R : Rws) (p : Option Addr) (c : Nat) (w : World) (hok : R.ok w) (hn : R.n ≤ 1073741824) (hl : ∀ i, i < R.n → R.l i ≤ 4398046511104) (hp : R.at_ w p) :
    Calls Try.prog 19 #[.slice p R.n c] w fun e w' => e = .returned (.slice (some ⟨w.heap.size, 0, none⟩) R.n R.n) ∧ Below w.heap.size w w' ∧ ∃ (d B : Nat → Nat) (D : Array Nat), (∀ i, i < R.n → d i < R.n ∧ d i = D[i]!) ∧ PermIn 0 R.n (Array.range R.n) D ∧ SortedIn R.lt 0 R.n D ∧
      ListP w' (some ⟨w.heap.size, 0, none⟩) R.n (fun i => some ⟨B i, 0, none⟩) (fun i => R.l (d i)) (fun i => R.l (d i)) (fun i => R.x (d i)) ∧ ∀ i, i < R.n → w.heap.size < B i ∧ (0 < R.l (d i) → Blk w' (B i) (R.l (d i))) := by
  go_enter Try.func19, Try.ntmps19
  go_wp2_with fail
  refine (sorted_any R p c w hok hn hp).mono ?_
  rintro _ w1 ⟨rfl, D, S, P, so⟩
  have hDs : D.size = R.n := by have := P.1; simpa using this
  go_wp2
  go_loopw [10] (fun vi wr => ∃ (i : Nat) (B : Nat → Nat) (cur : Array Value), vi = .int .i64 i ∧ i ≤ R.n ∧ Hid (Below w.heap.size w wr ∧ wr.heap[w.heap.size]? = some (.cells cur 22 (0, 0)) ∧ R.n ≤ cur.size ∧ (∀ j, j < i → cur[j]? = some (.slice (some ⟨B j, 0, none⟩) (R.l D[j]!) (R.l D[j]!))) ∧ (∀ j, i ≤ j → j < R.n → cur[j]? = some (R.v D[j]!)) ∧ ∀ j, j < i → w.heap.size < B j ∧ RowP wr (some ⟨B j, 0, none⟩) (R.l D[j]!) (R.x D[j]!) ∧ (0 < R.l D[j]! → Blk wr (B j) (R.l D[j]!)))) (fun vi _ => R.n - (intOf vi).toNat)
  case atStart =>
    obtain ⟨cur, h1, h2, h3⟩ := S.row
    exact ⟨0, fun _ => 0, cur, rfl, Nat.zero_le _, ⟨S.below, h1, by omega, fun j hj => by omega, fun j _ hj => h3 j (by omega), fun j hj => by omega⟩⟩
  case round =>
    obtain ⟨i, B, cur, rfl, hi, HH⟩ := hrel
    by_cases hlt : i < R.n
    · obtain ⟨m, hm⟩ : ∃ m, m = D[i]! := ⟨_, rfl⟩
      have HD := Lib.hid hm
      have hD : D[i]! < R.n := S.num i (by omega)
      rw [← hm] at hD
      obtain ⟨M, hM, hmk⟩ := make_row (R.l m) (hl _ hD)
      obtain ⟨w2, hap, RP, hb, hz, hbk⟩ := copy_row wr M (R.q m) (R.l m) (R.c m) (R.x m) 22 hM (hl _ hD) ((hok.row _ hD).ext HH.out.1)
      have hg : w.heap.size < wr.heap.size := by
        rcases Nat.lt_or_ge w.heap.size wr.heap.size with h | h
        · exact h
        · have := HH.out.2.1
          rw [Array.getElem?_eq_none h] at this; cases this
      have hcell : wr.cell? ⟨w.heap.size, i, none⟩ = some (R.v m) := by rw [Lib.cell_of_heap HH.out.2.1, HH.out.2.2.2.2.1 i (Nat.le_refl _) hlt, ← HD.out]
      have h2 : w2.heap[w.heap.size]? = some (.cells cur 22 (0, 0)) := by rw [hb.block _ hg]; exact HH.out.2.1
      have hcell2 : w2.cell? ⟨w.heap.size, i, none⟩ = some (R.v m) := by rw [Lib.cell_of_heap h2, HH.out.2.2.2.2.1 i (Nat.le_refl _) hlt, ← HD.out]
      have hfr2 : w2.frozen? ⟨w.heap.size, i, none⟩ = false := Lib.frozen_of_heap h2 i
      have H2 := Lib.hid h2
      have HAP := Lib.hid hap
      have HB := Lib.hid hb
      have HP := Lib.hid RP
      have HK := Lib.hid hbk
      have HM := Lib.hid hM
      have HS := Lib.hid S
      clear S hM h2 hap hb RP hm hbk
      go_wp2_with (at_builtin; refine wp_run_append rfl _ _ _ rfl _ _ _ _ rfl rfl HAP.out ?_)
      go_roundw
      case rel =>
        have hw3 := setCell_eq_setRow w2 w.heap.size i cur _ _ (Value.slice (some ⟨wr.heap.size, 0, none⟩) (R.l m) (R.l m)) H2.out
        have hh3 := setRow_heap w2 w.heap.size cur (cur.setIfInBounds i (Value.slice (some ⟨wr.heap.size, 0, none⟩) (R.l m) (R.l m))) _ _ H2.out
        have hbs : ∀ k, k ≠ w.heap.size → (w2.setCell ⟨w.heap.size, i, none⟩ (Value.slice (some ⟨wr.heap.size, 0, none⟩) (R.l m) (R.l m))).heap[k]? = w2.heap[k]? := fun k hk => by rw [hw3]; exact setRow_other _ _ _ _ hk
        have far : ∀ b n x, w.heap.size < b → RowP w2 (some ⟨b, 0, none⟩) n x → RowP (w2.setCell ⟨w.heap.size, i, none⟩ (Value.slice (some ⟨wr.heap.size, 0, none⟩) (R.l m) (R.l m))) (some ⟨b, 0, none⟩) n x := by
          intro b n x hb hr
          rcases hr with h | ⟨b', off, e, hA⟩
          · exact .inl h
          · cases e
            have hc : ∀ k, (w2.setCell ⟨w.heap.size, i, none⟩ (Value.slice (some ⟨wr.heap.size, 0, none⟩) (R.l m) (R.l m))).cell? ⟨b, k, none⟩ = w2.cell? ⟨b, k, none⟩ := fun k => World.cell?_of_block (w := w2) (hbs b (by omega))
            exact .inr ⟨b, 0, rfl, fun h0 => by simpa using hA.lt h0, fun j hj => (hc _).trans (hA.c0 j hj), fun j hj => (hc _).trans (hA.c1 j hj), fun j hj => (hc _).trans (hA.c2 j hj)⟩
        have farB : ∀ b n, w.heap.size < b → Blk w2 b n → Blk (w2.setCell ⟨w.heap.size, i, none⟩ (Value.slice (some ⟨wr.heap.size, 0, none⟩) (R.l m) (R.l m))) b n := by
          rintro b n hb ⟨c', e1, e2⟩
          exact ⟨c', by rw [hbs b (by omega)]; exact e1, e2⟩
        refine ⟨i + 1, fun j => if j = i then wr.heap.size else B j, cur.setIfInBounds i (Value.slice (some ⟨wr.heap.size, 0, none⟩) (R.l m) (R.l m)), by go_num, by omega, ⟨((HH.out.1.trans (HB.out.mono (Nat.le_of_lt hg))).setCell (p := ⟨w.heap.size, i, none⟩) (Nat.le_refl _) _), by rw [hw3]; exact hh3, by simpa using HH.out.2.2.1, fun j hj => ?_, fun j h1 h2 => ?_, fun j hj => ?_⟩⟩
        · rw [Array.getElem?_setIfInBounds]
          by_cases e : i = j
          · subst e
            have := HH.out.2.2.1
            rw [← HD.out]
            simp [show i < cur.size by omega]
          · simp only [if_neg e, if_neg (Ne.symm e)]
            exact HH.out.2.2.2.1 j (by omega)
        · rw [Array.getElem?_setIfInBounds, if_neg (by omega)]
          exact HH.out.2.2.2.2.1 j (by omega) h2
        · by_cases e : j = i
          · subst e
            simp only [if_true, ← HD.out]
            exact ⟨hg, far _ _ _ hg HP.out, fun h0 => farB _ _ hg (HK.out h0)⟩
          · simp only [if_neg e]
            have := HH.out.2.2.2.2.2 j (by omega)
            exact ⟨this.1, far _ _ _ this.1 (this.2.1.ext HB.out), fun h0 => farB _ _ this.1 ((this.2.2 h0).ext HB.out)⟩
      case measure => simp [intOf]; omega
    · have hin : i = R.n := by omega
      subst hin
      go_wp2
      go_ret
      have hg : w.heap.size < wr.heap.size := by
        rcases Nat.lt_or_ge w.heap.size wr.heap.size with h | h
        · exact h
        · have := HH.out.2.1
          rw [Array.getElem?_eq_none h] at this; cases this
      refine ⟨rfl, HH.out.1, fun i => D[i]!, B, D, fun i hi => ⟨S.num i (by omega), rfl⟩, P, so, ⟨fun k hk => ⟨w.heap.size, 0, rfl, hg, fun i hi => ?_⟩, fun i hi => (HH.out.2.2.2.2.2 i hi).2.1, fun i hi => hok.len _ (S.num i (by omega))⟩, fun i hi => ⟨(HH.out.2.2.2.2.2 i hi).1, (HH.out.2.2.2.2.2 i hi).2.2⟩⟩
      rw [Nat.zero_add, Lib.cell_of_heap HH.out.2.1]
      exact HH.out.2.2.2.1 i hi

end Go.Proofs.Ytmhcdmebienlpaa
