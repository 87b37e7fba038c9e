/- The reference's picks: New, Next. -/
import Derived.Test.YtklfccdjmlmmgaaPkI
namespace Go.Proofs.Ytklfccdjmlmmgaa
open Go.RowKit

/-- Each number fits into 64 bits. -/
def Fit (L : List Int) : Prop := ∀ x, x ∈ L → -9223372036854775808 ≤ x ∧ x ≤ 9223372036854775807

/-- A number below nought is turned. -/
def turnN (c : Int) : Int := if c < 0 then -(c + 1) else c
/-- What is chosen of n things, and the numbers that are left. -/
def pickN (L : List Int) (n : Int) : Int := if n < 1 then 0 else match L with | [] => 0 | c :: _ => (turnN c) % n
def pickL (L : List Int) (n : Int) : List Int := if n < 1 then L else L.tail

/-- The pointer to block p is a reference's picks that has the numbers L left; its block lies below B, the numbers' below M0. -/
structure RPk (w : World) (M0 B p : Nat) (L : List Int) : Prop where
  blk : ∃ q cap, w.heap[p]? = some (.cells #[.slice q L.length cap] 33 (0, 0)) ∧ SrcI w M0 q L ∧ L.length ≤ cap ∧ cap ≤ 9223372036854775807
  fit : Fit L
  low : p < B
  top : B ≤ w.heap.size
  nb : M0 ≤ B

theorem RPk.ext {w w' : World} {M0 B p : Nat} {L : List Int} (h : RPk w M0 B p L) (hb : Below B w w') : RPk w' M0 B p L := by
  obtain ⟨q, cap, h1, h2, h3⟩ := h.blk
  exact ⟨⟨q, cap, by rw [hb.block p h.low]; exact h1, h2.ext (hb.mono h.nb), h3⟩, h.fit, h.low, Nat.le_trans h.top hb.size, h.nb⟩
theorem RPk.up {w : World} {M0 B B' p : Nat} {L : List Int} (h : RPk w M0 B p L) (hB : B ≤ B') (ht : B' ≤ w.heap.size) : RPk w M0 B' p L := by
  obtain ⟨q, cap, h1, h2, h3⟩ := h.blk
  exact ⟨⟨q, cap, h1, h2, h3⟩, h.fit, Nat.lt_of_lt_of_le h.low hB, ht, Nat.le_trans h.nb hB⟩

theorem RPk.made {w : World} {M0 : Nat} {q : Option Addr} {c : Nat} {L : List Int} (hc : L.length ≤ c) (hc2 : c ≤ 9223372036854775807) (hS : SrcI w M0 q L) (hM : M0 ≤ w.heap.size) (hF : Fit L) : RPk (w.alloc (.cells #[.slice q L.length c] 33)) M0 (w.heap.size + 1) w.heap.size L :=
  ⟨⟨q, c, heap_alloc_new _ _, hS.ext ((Below.refl _ _).alloc hM _), hc, hc2⟩, hF, Nat.lt_succ_self _, by simp, by omega⟩

theorem SrcI.take {w : World} {B : Nat} {q : Option Addr} {L : List Int} (h : SrcI w B q L) (n : Nat) : SrcI w B q (L.take n) := fun i hi => by
  obtain ⟨g, off, h1, h2, h3⟩ := h i (by rw [List.length_take] at hi; omega)
  refine ⟨g, off, h1, h2, fun j u hu => h3 j u ?_⟩
  rw [List.getElem?_take] at hu
  split at hu
  · exact hu
  · cases hu

set_option maxRecDepth 100000 in
set_option maxHeartbeats 1000000 in
theorem rnew_any (q : Option Addr) (c : Nat) (L : List Int) (w : World) (hc : L.length ≤ c) (hc2 : c ≤ 9223372036854775807) {M0 : Nat} (hS : SrcI w M0 q L) (hM : M0 ≤ w.heap.size) (hF : Fit L) :
    Calls Try.prog 10 #[.slice q L.length c] w fun e w' => (∃ p, e = .returned (.pointer (some ⟨p, 0, none⟩)) ∧ p = w.heap.size ∧ RPk w' M0 (p + 1) p (L.take 1000)) ∧ Below w.heap.size w w' := by
  by_cases hL : (L.length : Int) ≤ 1000
  · have ht : L.take 1000 = L := List.take_of_length_le (by omega)
    have HS := Lib.hid hS
    clear hS
    rw [ht]
    go_enter Try.func10, Try.ntmps10
    go_wp2
    go_ret
    exact ⟨⟨_, rfl, rfl, RPk.made hc hc2 HS.out hM hF⟩, (Below.refl _ _).alloc (Nat.le_refl _) _⟩
  · have hl : (L.take 1000).length = 1000 := by rw [List.length_take]; omega
    have HS := Lib.hid (hS.take 1000)
    have hc3 : 1000 ≤ c := by omega
    have hq : q ≠ none := fun e => by obtain ⟨g, off, h1, _⟩ := hS 0 (by omega); rw [e] at h1; cases h1
    have hF' := Lib.hid hF
    clear hS hF
    go_enter Try.func10, Try.ntmps10
    go_wp2
    go_ret
    refine ⟨⟨_, rfl, rfl, ?_⟩, (Below.refl _ _).alloc (Nat.le_refl _) _⟩
    have := RPk.made (w := w) (L := L.take 1000) (c := c) (by omega) hc2 HS.out hM (fun x hx => hF'.out x (List.mem_of_mem_take hx))
    rw [hl] at this
    exact this

set_option maxRecDepth 100000 in
set_option maxHeartbeats 1000000 in
theorem rnext_none (p : Nat) (n : Int) (w : World) (hn : n < 1) :
    Calls Try.prog 12 #[.pointer (some ⟨p, 0, none⟩), .int .i64 n] w fun e w' => e = .returned (.int .i64 0) ∧ w' = w := by
  go_enter Try.func12, Try.ntmps12
  go_wp2
  go_ret
  exact ⟨rfl, rfl⟩

theorem RPk.put {w : World} {M0 B p : Nat} {v0 : Value} {q : Option Addr} {cap : Nat} {L : List Int} (hb : w.heap[p]? = some (.cells #[v0] 33 (0, 0))) (hS : SrcI w M0 q L) (hne : ∀ g off, L ≠ [] → q = some ⟨g, off, none⟩ → g ≠ p) (hc : L.length ≤ cap) (hc2 : cap ≤ 9223372036854775807) (hF : Fit L) (hl : p < B) (ht : B ≤ w.heap.size) (hnb : M0 ≤ B) :
    RPk (w.setCell ⟨p, 0, none⟩ (.slice q L.length cap)) M0 B p L := by
  refine ⟨⟨q, cap, ?_, ?_, hc, hc2⟩, hF, hl, by simpa [World.setCell] using ht, hnb⟩
  · rw [setCell_eq_setRow w p 0 _ _ _ _ hb]
    exact setRow_heap w p _ _ _ _ hb
  · intro i hi
    obtain ⟨g, off, h1, h2, h3⟩ := hS i hi
    have hgp : g ≠ p := hne g off (by rintro rfl; simp at hi) h1
    refine ⟨g, off, h1, h2, fun j u hu => ?_⟩
    rw [World.cell?_setCell_far _ _ _ _ (show p ≠ g from fun e => hgp e.symm)]
    exact h3 j u hu

set_option maxRecDepth 100000 in
set_option maxHeartbeats 1000000 in
theorem rnext_empty (p : Nat) (n : Int) (w : World) {M0 B : Nat} (hR : RPk w M0 B p []) (hn : ¬ n < 1) :
    Calls Try.prog 12 #[.pointer (some ⟨p, 0, none⟩), .int .i64 n] w fun e w' => e = .returned (.int .i64 0) ∧ w' = w := by
  obtain ⟨q, cap, hb, _, _, hc2⟩ := hR.blk
  have c0 : w.cell? ⟨p, 0, none⟩ = some (.slice q 0 cap) := by rw [Lib.cell_of_heap hb]; rfl
  clear hb
  go_enter Try.func12, Try.ntmps12
  go_wp2
  go_ret
  exact ⟨rfl, rfl⟩

theorem rnext_some (p : Nat) (c : Int) (L : List Int) (n : Int) (w : World) {M0 B : Nat} (hR : RPk w M0 B p (c :: L)) (hn : ¬ n < 1) (hn2 : n ≤ 9223372036854775807) :
    Calls Try.prog 12 #[.pointer (some ⟨p, 0, none⟩), .int .i64 n] w fun e w' => e = .returned (.int .i64 ((turnN c) % n)) ∧ RPk w' M0 B p L ∧ ∃ v, w' = w.setCell ⟨p, 0, none⟩ v := by
  obtain ⟨q, cap, hb, hS, hcap, hc2⟩ := hR.blk
  obtain ⟨m, hm⟩ : ∃ m, m = L.length + 1 := ⟨_, rfl⟩
  have c0 : w.cell? ⟨p, 0, none⟩ = some (.slice q m cap) := by rw [Lib.cell_of_heap hb, hm]; rfl
  have hz : ¬ m = 0 := by omega
  have hz1 : (m == 0) = false := by simpa using hz
  have hz2 : 1 ≤ m := by omega
  have f0 := fun o => Lib.frozen_of_heap hb o
  obtain ⟨g, off, rfl, hg, hcell⟩ := hS 0 (by simp)
  have c1 : w.cell? ⟨g, off, none⟩ = some (.int .i64 c) := hcell 0 c rfl
  have hlow := hR.low
  have htop := hR.top
  have hnb := hR.nb
  have hp : p < w.heap.size := Nat.lt_of_lt_of_le hlow htop
  have hfit := hR.fit c (by simp)
  have hF : Fit L := fun x hx => hR.fit x (by simp [hx])
  have HB := Lib.hid hb
  have hcap' : m ≤ cap := by rw [hm]; simpa using hcap
  have HM := Lib.hid hm
  clear hcap hm
  have HC := Lib.hid hcell
  clear hb hS hcell hR
  have hgp : g ≠ p := by
    rintro rfl
    rw [Lib.cell_of_heap HB.out] at c1
    cases off with
    | zero => simp at c1
    | succ k => simp at c1
  have HG := Lib.hid hgp
  have HF := Lib.hid hF
  have tn : ∀ z : Int, z = turnN c → z % n = (turnN c) % n := fun z h => by rw [h]
  have HT := Lib.hid tn
  clear hgp hF tn
  have last : ∀ (v : Value) (e : Ending), e = .returned (.int .i64 ((turnN c) % n)) → (v = .slice (some ⟨g, off, none⟩) 0 0 ∧ cap = 1 ∨ v = .slice (some ⟨g, off + 1, none⟩) (m - 1) (cap - 1)) →
      e = .returned (.int .i64 ((turnN c) % n)) ∧ RPk (w.setCell ⟨p, 0, none⟩ v) M0 B p L ∧ ∃ v', w.setCell ⟨p, 0, none⟩ v = w.setCell ⟨p, 0, none⟩ v' := by
    intro v e he hv
    have hm1 : m - 1 = L.length := by have := HM.out; omega
    refine ⟨he, ?_, _, rfl⟩
    rcases hv with ⟨rfl, h1⟩ | rfl
    · have hL : L = [] := List.length_eq_zero_iff.1 (by have := HM.out; omega)
      subst hL
      exact RPk.put (L := []) HB.out (fun i hi => by simp at hi) (fun _ _ h => absurd rfl h) (by simp) (by omega) HF.out hlow htop hnb
    · rw [hm1]
      exact RPk.put HB.out (fun i hi => ⟨g, off + 1, rfl, hg, fun j u hu => by have := HC.out (j + 1) u (by simpa using hu); rwa [show off + 1 + j = off + (j + 1) by omega]⟩) (fun _ _ _ h => by simp at h; rw [← h.1]; exact HG.out) (by omega) (by omega) HF.out hlow htop hnb
  have HL := Lib.hid last
  clear last
  by_cases hneg : c < 0
  · by_cases hcap1 : cap = 1
    · subst hcap1
      go_enter Try.func12, Try.ntmps12
      go_wp2
      go_ret
      refine HL.out _ _ ?_ (.inl ⟨rfl, by first | trivial | rfl⟩)
      rw [← HT.out (-(c + 1)) (by unfold turnN; rw [if_pos (by omega)]), ← Int.tmod_eq_emod_of_nonneg (by omega), Int.neg_tmod]
      rfl
    · go_enter Try.func12, Try.ntmps12
      go_wp2
      go_ret
      refine HL.out _ _ ?_ (.inr rfl)
      rw [← HT.out (-(c + 1)) (by unfold turnN; rw [if_pos (by omega)]), ← Int.tmod_eq_emod_of_nonneg (by omega), Int.neg_tmod]
      rfl
  · by_cases hcap1 : cap = 1
    · subst hcap1
      go_enter Try.func12, Try.ntmps12
      go_wp2
      go_ret
      refine HL.out _ _ ?_ (.inl ⟨rfl, by first | trivial | rfl⟩)
      rw [← HT.out c (by unfold turnN; rw [if_neg (by omega)])]
      rfl
    · go_enter Try.func12, Try.ntmps12
      go_wp2
      go_ret
      refine HL.out _ _ ?_ (.inr rfl)
      rw [← HT.out c (by unfold turnN; rw [if_neg (by omega)])]
      rfl

end Go.Proofs.Ytklfccdjmlmmgaa
