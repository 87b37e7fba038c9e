/- The library's stable sort at lists of places. -/
import Derived.Test.YtflbeccfdbjbhaaIsM
import Derived.Test.YtflbeccfdbjbhaaIsN
namespace Go.Proofs.Ytflbeccfdbjbhaa
open Go.RowKit
open Go.Sort (swp PermIn SortedIn SWO Ins)

/-- symMergeCmpFunc: two ranges in order, side by side, become one. -/
theorem sym_any (R : Rws) (W0 : World) (g cap : Nat) (hS : SWO R.lt) (hok : R.ok W0) : ∀ (N a m b : Nat) (d : Array Nat) (w : World), b - a ≤ N → a < m → m < b → b ≤ d.size → d.size ≤ 1073741824 → SW R W0 g d w → SortedIn R.lt a m d → SortedIn R.lt m b d → Lo a m b d →
    Calls Try.prog 32 #[.slice (some ⟨g, 0, none⟩) d.size cap, .int .i64 a, .int .i64 m, .int .i64 b, .func (.func 26) #[] #[R.c1, R.c2]] w fun e w' => e = .returned (.tuple #[]) ∧ ∃ d', SW R W0 g d' w' ∧ PermIn a b d d' ∧ SortedIn R.lt a b d' := by
  intro N
  induction N with
  | zero => intro a m b d w h; omega
  | succ N ih =>
    intro a m b d w hN ham hmb hb hsz S hs1 hs2 hL
    by_cases h1 : m = a + 1
    · exact sym_left R W0 g cap a m b d w hS hok S h1 (by omega) hb hsz (by rw [← h1]; exact hs2) hL
    by_cases h2 : b = m + 1
    · exact sym_right R W0 g cap a m b d w hS hok S h2 (by omega) hb hsz hs1 hL
    have ih' := fun (a' m' b' : Nat) (d' : Array Nat) (w' : World) (h : b' - a' < b - a) => ih a' m' b' d' w' (by omega)
    by_cases h3 : m ≤ (a + b) / 2
    · exact sym_near R W0 g cap a m b d w hS hok S ham hmb hb hsz hs1 hs2 hL ih' (by omega) (by omega) _ rfl h3
    · exact sym_far R W0 g cap a m b d w hS hok S ham hmb hb hsz hs1 hs2 hL ih' (by omega) (by omega) _ rfl (by omega)

/-- Each place stands in its own piece of k places, from lo on, short of n. -/
def Home (k lo n : Nat) (e : Array Nat) : Prop := ∀ t, lo ≤ t → t < n → ∀ c, k ∣ c → (c ≤ t ↔ c ≤ e[t]!)
theorem Home.lo {k l n : Nat} {e : Array Nat} (h : Home k l n e) {a m b : Nat} (hm : k ∣ m) (hl : l ≤ a) (hb : b ≤ n) : Lo a m b e := fun p q h1 h2 h3 h4 => by
  have x := (h p (by omega) (by omega) m hm)
  have y := (h q (by omega) (by omega) m hm)
  omega
/-- A piece turned about in itself. -/
theorem Home.perm {k l n a : Nat} {b : Nat} {e e' : Array Nat} (h : Home k l n e) (hl : l ≤ a) (ha : k ∣ a) (hb : b ≤ a + k) (hbn : b ≤ n) (hbs : b ≤ e.size) (P : PermIn a b e e') : Home k l n e' := by
  intro t h1 h2 c hc
  by_cases ht : a ≤ t ∧ t < b
  · have hin : a ≤ e'[t]! ∧ e'[t]! < a + k := Go.Sort.permIn_all e e' a b (fun y => a ≤ y ∧ y < a + k) hbs P (fun j h3 h4 => by
      have x := h j (by omega) (by omega) a ha
      have y := h j (by omega) (by omega) (a + k) (Nat.dvd_add ha (Nat.dvd_refl k))
      omega) t ht.1 ht.2
    have hca : c ≤ a ∨ a + k ≤ c := by
      obtain ⟨s, rfl⟩ := ha
      obtain ⟨r, rfl⟩ := hc
      by_cases hrs : r ≤ s
      · exact .inl (Nat.mul_le_mul_left k hrs)
      · have h5 : k * (s + 1) ≤ k * r := Nat.mul_le_mul_left k (by omega)
        rw [Nat.mul_succ] at h5
        exact .inr (by omega)
    omega
  · rw [P.2.1 t (by omega)]
    exact h t h1 h2 c hc
theorem Home.id {k a n : Nat} {e : Array Nat} (h : ∀ t, a ≤ t → t < n → e[t]! = t) : Home k a n e := fun t h1 h2 c hc => by rw [h t h1 h2]
theorem Home.double {k l n : Nat} {e : Array Nat} (h : Home k l n e) : Home (2 * k) l n e := fun t h1 h2 c hc => h t h1 h2 c (Nat.dvd_trans ⟨2, by omega⟩ hc)

/-- In order in pieces of k places each, up to n: each place but the first of a piece is not ahead of the one before it. -/
def Adj (lt : Nat → Nat → Bool) (k n : Nat) (d : Array Nat) : Prop := ∀ i, i + 1 < n → ¬ k ∣ (i + 1) → lt d[i + 1]! d[i]! = false

theorem sorted_adj {lt : Nat → Nat → Bool} (hS : SWO lt) {d : Array Nat} {a b : Nat} (h : ∀ i, a ≤ i → i + 1 < b → lt d[i + 1]! d[i]! = false) : SortedIn lt a b d := by
  intro p q hp hpq hq
  obtain ⟨r, rfl⟩ : ∃ r, q = p + 1 + r := ⟨q - p - 1, by omega⟩
  clear hpq
  induction r with
  | zero => exact h p hp hq
  | succ r ih => exact hS.ntrans _ _ _ (h (p + 1 + r) (by omega) (by omega)) (ih (by omega))
theorem not_dvd {k a x : Nat} (h : k ∣ a) (h1 : a < x) (h2 : x < a + k) : ¬ k ∣ x := by
  intro h3
  obtain ⟨s, rfl⟩ := h
  obtain ⟨t, rfl⟩ := h3
  have h4 : s < t := Nat.lt_of_mul_lt_mul_left h1
  have h5 : k * (s + 1) ≤ k * t := Nat.mul_le_mul_left k h4
  rw [Nat.mul_succ] at h5
  omega

set_option maxRecDepth 100000 in
set_option maxHeartbeats 8000000 in
theorem stable_any (R : Rws) (W0 : World) (g cap : Nat) (d : Array Nat) (w : World) (hS : SWO R.lt) (hok : R.ok W0) (S : SW R W0 g d w) (hsz : d.size ≤ 1073741824) (hA : ∀ t, t < d.size → d[t]! = t) :
    Calls Try.prog 30 #[.slice (some ⟨g, 0, none⟩) d.size cap, .int .i64 d.size, .func (.func 26) #[] #[R.c1, R.c2]] w fun e w' => e = .returned (.tuple #[]) ∧ ∃ d', SW R W0 g d' w' ∧ PermIn 0 d.size d d' ∧ SortedIn R.lt 0 d.size d' := by
  go_enter Try.func30, Try.ntmps30
  go_wp2_with fail
  go_loopw [7, 8] (fun va vb wr => ∃ (a : Nat) (e : Array Nat), va = .int .i64 a ∧ vb = .int .i64 (a + 20 : Nat) ∧ a ≤ d.size ∧ Hid (SW R W0 g e wr ∧ PermIn 0 d.size d e ∧ Adj R.lt 20 a e ∧ 20 ∣ a ∧ (∀ t, a ≤ t → t < d.size → e[t]! = t) ∧ Home 20 0 d.size e)) (fun va _ _ => d.size - (intOf va).toNat)
  case atStart => exact ⟨0, d, rfl, rfl, by omega, ⟨S, permIn_refl, fun i h => by omega, ⟨0, rfl⟩, fun t _ h2 => hA t h2, Home.id fun t _ h2 => hA t h2⟩⟩
  case round =>
    clear S hA
    obtain ⟨a, e, rfl, rfl, ha, HH⟩ := hrel
    have hse : e.size = d.size := HH.out.2.1.1
    by_cases hlt : a + 20 ≤ d.size
    · go_wp2_with fail
      have hc := insertion_any R W0 g cap a (a + 20) e wr hS hok HH.out.1 (by omega) (by omega) (by omega) (fun t h1 h2 => HH.out.2.2.2.2.1 t h1 (by omega))
      rw [hse] at hc
      refine hc.mono ?_
      rintro _ w1 ⟨rfl, e1, S1, P1, so⟩
      go_wp2
      go_roundw
      case rel =>
        refine ⟨a + 20, e1, rfl, by first | rfl | go_num, hlt, ⟨S1, permIn_trans HH.out.2.1 (Go.Sort.permIn_mono _ _ _ _ _ _ (Nat.zero_le _) hlt (by omega) P1), fun i h1 h2 => ?_, Nat.dvd_add HH.out.2.2.2.1 ⟨1, rfl⟩, fun t h1 h2 => by rw [P1.2.1 t (.inr h1)]; exact HH.out.2.2.2.2.1 t (by omega) h2, HH.out.2.2.2.2.2.perm (Nat.zero_le _) HH.out.2.2.2.1 (Nat.le_refl _) hlt (by omega) P1⟩⟩
        by_cases c : i + 1 < a
        · rw [P1.2.1 i (.inl (by omega)), P1.2.1 (i + 1) (.inl c)]
          exact HH.out.2.2.1 i c h2
        · by_cases c2 : i + 1 = a
          · rw [c2] at h2; exact absurd HH.out.2.2.2.1 h2
          · exact so i (i + 1) (by omega) (by omega) h1
      case measure => simp [intOf]; omega
    · go_wp2_with fail
      have hc := insertion_any R W0 g cap a d.size e wr hS hok HH.out.1 ha (by omega) (by omega) (fun t h1 h2 => HH.out.2.2.2.2.1 t h1 h2)
      rw [hse] at hc
      refine hc.mono ?_
      rintro _ w1 ⟨rfl, e1, S1, P1, so⟩
      have A1 : Adj R.lt 20 d.size e1 := by
        intro i h1 h2
        by_cases c : i + 1 < a
        · rw [P1.2.1 i (.inl (by omega)), P1.2.1 (i + 1) (.inl c)]
          exact HH.out.2.2.1 i c h2
        · by_cases c2 : i + 1 = a
          · rw [c2] at h2; exact absurd HH.out.2.2.2.1 h2
          · exact so i (i + 1) (by omega) (by omega) h1
      have Hm : Home 20 0 d.size e1 := HH.out.2.2.2.2.2.perm (Nat.zero_le _) HH.out.2.2.2.1 (by omega) (Nat.le_refl _) (by omega) P1
      have H1 := Lib.hid (show SW R W0 g e1 w1 ∧ PermIn 0 d.size d e1 ∧ Adj R.lt 20 d.size e1 ∧ Home 20 0 d.size e1 from ⟨S1, permIn_trans HH.out.2.1 (Go.Sort.permIn_mono _ _ _ _ _ _ (Nat.zero_le _) (Nat.le_refl _) (by omega) P1), A1, Hm⟩)
      clear S1 P1 so A1 Hm HH hc
      go_wp2_with fail
      go_loopw [6, 7, 8, 9] (fun vk _ _ _ wr => ∃ (k : Nat) (e : Array Nat), vk = .int .i64 k ∧ 1 ≤ k ∧ k ≤ 2 * d.size + 40 ∧ Hid (SW R W0 g e wr ∧ PermIn 0 d.size d e ∧ Adj R.lt k d.size e ∧ Home k 0 d.size e)) (fun vk _ _ _ _ => d.size - (intOf vk).toNat)
      case atStart => exact ⟨20, e1, rfl, by omega, by omega, H1⟩
      case round =>
        clear H1
        obtain ⟨k, e2, rfl, hk1, hk2, HK⟩ := hrel
        have hse2 : e2.size = d.size := HK.out.2.1.1
        by_cases hkn : k < d.size
        · go_wp2_with fail
          go_loopw [7, 8] (fun va vb wq => ∃ (a : Nat) (e : Array Nat), va = .int .i64 a ∧ vb = .int .i64 (a + 2 * k : Nat) ∧ a ≤ d.size ∧ Hid (SW R W0 g e wq ∧ PermIn 0 d.size d e ∧ 2 * k ∣ a ∧ Adj R.lt (2 * k) a e ∧ (∀ i, a ≤ i → i + 1 < d.size → ¬ k ∣ (i + 1) → R.lt e[i + 1]! e[i]! = false) ∧ Home (2 * k) 0 d.size e ∧ Home k a d.size e)) (fun va _ _ => d.size - (intOf va).toNat)
          case atStart => exact ⟨0, e2, rfl, by first | rfl | (exact congrArg (Value.int .i64) (by omega)), by omega, ⟨HK.out.1, HK.out.2.1, ⟨0, rfl⟩, fun i h => by omega, fun i _ h1 h2 => HK.out.2.2.1 i h1 h2, HK.out.2.2.2.double, HK.out.2.2.2⟩⟩
          case round =>
            obtain ⟨a, e, rfl, rfl, ha, HH⟩ := hrel
            have hse : e.size = d.size := HH.out.2.1.1
            have hka : k ∣ a := Nat.dvd_trans ⟨2, by omega⟩ HH.out.2.2.1
            have left : ∀ q, q ≤ a + k → q ≤ d.size → SortedIn R.lt a q e := fun q h1 h2 => sorted_adj hS fun i h3 h4 => HH.out.2.2.2.2.1 i h3 (by omega) (not_dvd hka (by omega) (by omega))
            have right : ∀ q, q ≤ a + 2 * k → q ≤ d.size → SortedIn R.lt (a + k) q e := fun q h1 h2 => sorted_adj hS fun i h3 h4 => HH.out.2.2.2.2.1 i (by omega) (by omega) (not_dvd (Nat.dvd_add hka (Nat.dvd_refl k)) (by omega) (by omega))
            have LL := Lib.hid left
            have RR := Lib.hid right
            clear left right
            by_cases hlt : a + 2 * k ≤ d.size
            · go_wp2_with fail
              have hc := sym_any R W0 g cap hS hok (2 * k) a (a + k) (a + 2 * k) e wr (by omega) (by omega) (by omega) (by omega) (by omega) HH.out.1 (LL.out _ (by omega) (by omega)) (RR.out _ (by omega) hlt) (HH.out.2.2.2.2.2.2.lo (Nat.dvd_add hka (Nat.dvd_refl k)) (Nat.le_refl _) hlt)
              rw [hse, show ((a + k : Nat) : Int) = (a : Int) + (k : Int) by omega, show ((a + 2 * k : Nat) : Int) = (a : Int) + 2 * (k : Int) by omega] at hc
              refine hc.mono ?_
              rintro _ w4 ⟨rfl, e4, S4, P4, so⟩
              go_wp2
              go_roundw
              case rel =>
                refine ⟨a + 2 * k, e4, by first | rfl | (exact congrArg (Value.int .i64) (by omega)), by first | rfl | (exact congrArg (Value.int .i64) (by omega)), hlt, ⟨S4, permIn_trans HH.out.2.1 (Go.Sort.permIn_mono _ _ _ _ _ _ (Nat.zero_le _) hlt (by omega) P4), Nat.dvd_add HH.out.2.2.1 (Nat.dvd_refl _), fun i h1 h2 => ?_, fun i h0 h1 h2 => ?_, HH.out.2.2.2.2.2.1.perm (Nat.zero_le _) HH.out.2.2.1 (Nat.le_refl _) hlt (by omega) P4, fun t h1 h2 => by rw [P4.2.1 t (.inr h1)]; exact HH.out.2.2.2.2.2.2 t (by omega) h2⟩⟩
                · by_cases c : i + 1 < a
                  · rw [P4.2.1 i (.inl (by omega)), P4.2.1 (i + 1) (.inl c)]
                    exact HH.out.2.2.2.1 i c h2
                  · by_cases c2 : i + 1 = a
                    · rw [c2] at h2; exact absurd HH.out.2.2.1 h2
                    · exact so i (i + 1) (by omega) (by omega) h1
                · rw [P4.2.1 i (.inr h0), P4.2.1 (i + 1) (.inr (by omega))]
                  exact HH.out.2.2.2.2.1 i (by omega) h1 h2
              case measure => simp [intOf]; omega
            · by_cases hm : a + k < d.size
              · have q1 : (a : Int) + (k : Int) < (d.size : Int) := by omega
                go_wp2_with fail
                have hc := sym_any R W0 g cap hS hok (2 * k) a (a + k) d.size e wr (by omega) (by omega) hm (by omega) (by omega) HH.out.1 (LL.out _ (by omega) (by omega)) (RR.out _ (by omega) (Nat.le_refl _)) (HH.out.2.2.2.2.2.2.lo (Nat.dvd_add hka (Nat.dvd_refl k)) (Nat.le_refl _) (Nat.le_refl _))
                rw [hse, show ((a + k : Nat) : Int) = (a : Int) + (k : Int) by omega] at hc
                refine hc.mono ?_
                rintro _ w4 ⟨rfl, e4, S4, P4, so⟩
                go_wp2
                go_roundw
                case rel =>
                  refine ⟨2 * k, e4, by first | rfl | (exact congrArg (Value.int .i64) (by omega)), by omega, by omega, ⟨S4, permIn_trans HH.out.2.1 (Go.Sort.permIn_mono _ _ _ _ _ _ (Nat.zero_le _) (Nat.le_refl _) (by omega) P4), fun i h1 h2 => ?_, HH.out.2.2.2.2.2.1.perm (Nat.zero_le _) HH.out.2.2.1 (by omega) (Nat.le_refl _) (by omega) P4⟩⟩
                  by_cases c : i + 1 < a
                  · rw [P4.2.1 i (.inl (by omega)), P4.2.1 (i + 1) (.inl c)]
                    exact HH.out.2.2.2.1 i c h2
                  · by_cases c2 : i + 1 = a
                    · rw [c2] at h2; exact absurd HH.out.2.2.1 h2
                    · exact so i (i + 1) (by omega) (by omega) h1
                case measure => simp [intOf]; omega
              · have q1 : ¬ (a : Int) + (k : Int) < (d.size : Int) := by omega
                go_wp2
                go_roundw
                case rel =>
                  refine ⟨2 * k, e, by first | rfl | (exact congrArg (Value.int .i64) (by omega)), by omega, by omega, ⟨HH.out.1, HH.out.2.1, fun i h1 h2 => ?_, HH.out.2.2.2.2.2.1⟩⟩
                  by_cases c : i + 1 < a
                  · exact HH.out.2.2.2.1 i c h2
                  · by_cases c2 : i + 1 = a
                    · rw [c2] at h2; exact absurd HH.out.2.2.1 h2
                    · exact LL.out d.size (by omega) (Nat.le_refl _) i (i + 1) (by omega) (by omega) h1
                case measure => simp [intOf]; omega
        · go_wp2
          go_end0
          refine ⟨rfl, e2, HK.out.1, HK.out.2.1, sorted_adj hS fun i h1 h2 => HK.out.2.2.1 i h2 ?_⟩
          intro h3
          have := Nat.le_of_dvd (by omega) h3
          omega

end Go.Proofs.Ytflbeccfdbjbhaa
