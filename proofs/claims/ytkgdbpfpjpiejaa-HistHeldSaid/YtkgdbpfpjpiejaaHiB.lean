/- A histogram's steps in memory; how many there are, and how many lie below a value: the developers' and the reference's. -/
import Derived.Test.YtkgdbpfpjpiejaaHiA
import Derived.Test.YtkgdbpfpjpiejaaValH
import Derived.Test.YtkgdbpfpjpiejaaStD
import Derived.Deep.Slices
import Derived.Test.YtkgdbpfpjpiejaaAfter
namespace Go.Proofs.Ytkgdbpfpjpiejaa
open Go.RowKit Go.Deep
set_option linter.unusedVariables false
set_option linter.unusedSimpArgs false
set_option maxRecDepth 100000

/-- A step behind an address. -/
def stepC (w : World) (g o : Nat) (s : Stp) : Prop := valC w g o s.x ∧ w.cell? ⟨g, o + 3, none⟩ = some (.int .i64 s.m)
def StepsA (w : World) (lo hi : Nat) (q : Option Addr) (l : List Stp) : Prop := ArrA lo hi q 4 l (stepC w)
theorem StepsA.same {w w' : World} {lo hi : Nat} {q : Option Addr} {l : List Stp} (h : StepsA w lo hi q l) (s : Same lo hi w w') : StepsA w' lo hi q l :=
  ArrA.imp h fun _ _ _ h1 h2 h => ⟨⟨(s.cell h1 h2).trans h.1.1, (s.cell h1 h2).trans h.1.2.1, (s.cell h1 h2).trans h.1.2.2⟩, (s.cell h1 h2).trans h.2⟩
theorem StepsA.later {w w' : World} {q : Option Addr} {l : List Stp} (h : StepsA w 0 w.heap.size q l) (hb : Below w.heap.size w w') : StepsA w' 0 w'.heap.size q l :=
  ArrA.wide (StepsA.same h (Same.of hb (Nat.le_refl _))) (Nat.le_refl _) hb.size

theorem sumC_snoc (f : Stp → Bool) (l : List Stp) (i : Nat) (s : Stp) (n : Int) (h : l[i]? = some s) : sumC f n (l.take (i + 1)) = if f s then addC (sumC f n (l.take i)) s.m else sumC f n (l.take i) := by
  have e : l.take (i + 1) = l.take i ++ [s] := by rw [List.take_add_one, h]; rfl
  rw [e, sumC_append, sumC_one]

set_option maxHeartbeats 4000000 in
theorem many_any (d nn : Int) (q : Option Addr) (l : List Stp) (c : Nat) (w : World) (hlm : l.length ≤ 9223372036854775807) (h : StepsA w 0 w.heap.size q l) :
    Calls Try.prog 20 #[.agg #[.int .i64 d, .int .i64 nn, .slice q l.length c]] w fun e w' => e = .returned (.int .i64 (manyL l)) ∧ Below w.heap.size w w' := by
  obtain ⟨n, hn⟩ : ∃ n, n = l.length := ⟨_, rfl⟩
  rw [← hn] at hlm ⊢
  have HN := Lib.hid hn
  have H := Lib.hid h
  clear hn h
  go_enter Try.func20, Try.ntmps20
  go_wp2_with fail
  go_loopw [3, 9] (fun vn vi wr => ∃ (i : Nat) (z : Int), vi = .int .i64 i ∧ vn = .int .i64 z ∧ i ≤ n ∧ Hid (z = sumC (fun _ => true) 0 (l.take i)) ∧ Hid (Below w.heap.size w wr)) (fun _ vi _ => n - (intOf vi).toNat)
  case atStart => exact ⟨0, 0, rfl, rfl, by omega, rfl, ext_alloc (ext_refl _) _⟩
  case round =>
    obtain ⟨i, z, rfl, rfl, hi, hA, hB⟩ := hrel
    obtain ⟨V, hV⟩ : ∃ V, V = wr := ⟨_, rfl⟩
    rw [← hV] at hB
    rw [← hV]
    have HA := Lib.hid hA
    have HB := Lib.hid hB.out
    clear hA hB hV
    by_cases hlt : i < n
    · have hil : i < l.length := by rw [← HN.out]; exact hlt
      obtain ⟨g, off, hq, -, hg, ⟨hc0, hc1, hc2⟩, hc3⟩ := ArrA.at_ (StepsA.same H.out (Same.of HB.out (Nat.le_refl _))) hil
      subst hq
      obtain ⟨s, hs⟩ : ∃ s, s = l[i] := ⟨_, rfl⟩
      rw [← hs] at hc0 hc1 hc2 hc3
      have HX := Lib.hid (show l[i]? = some s by rw [hs, List.getElem?_eq_getElem hil])
      have hgV : g < V.heap.size := Nat.lt_of_lt_of_le hg HB.out.size
      clear hs hg
      obtain ⟨⟨xk, xn, xs⟩, m⟩ := s
      simp only at hc0 hc1 hc2 hc3
      go_wp2_with (go_at_call 12; refine (add_any _ _ _).mono ?_; rintro e w1 ⟨rfl, rfl⟩)
      go_roundw
      case rel => exact ⟨i + 1, addC z m, by go_num, rfl, hlt, by show addC z m = _; rw [sumC_snoc _ _ _ _ _ HX.out, if_pos rfl, ← HA.out.out], by have := HB.out; (repeat (first | exact ext_refl _ | assumption | (refine ext_alloc ?_ _) | (refine ext_drewN ?_ _) | refine ext_drew ?_ | (refine ext_set (by first | (simp; done) | (simp; omega)) _ ?_) | (refine ext_trans ?_ (by assumption))))⟩
      case measure => simp [intOf] <;> omega
    · obtain rfl : i = n := by omega
      have HL := Lib.hid (show z = manyL l by have h2 := HA.out.out; rw [HN.out, List.take_length] at h2; exact h2)
      go_wp2_with fail
      go_ret
      exact ⟨by rw [HL.out]; rfl, HB.out⟩

/-- Whether a step lies below, told by the comparison. -/
theorem lies_at {v : Val} {too : Bool} {s : Stp} : lies v too s = (decide (s.x.cmp v < 0) || (too && s.x.cmp v == 0)) := rfl

set_option maxHeartbeats 4000000 in
theorem below_any (d nn : Int) (q : Option Addr) (l : List Stp) (c : Nat) (v : Val) (too : Bool) (w : World) (hlm : l.length ≤ 9223372036854775807) (h : StepsA w 0 w.heap.size q l) :
    Calls Try.prog 22 #[.agg #[.int .i64 d, .int .i64 nn, .slice q l.length c], v.v, .bool too] w fun e w' => e = .returned (.int .i64 (belowL v too l)) ∧ Below w.heap.size w w' := by
  obtain ⟨n, hn⟩ : ∃ n, n = l.length := ⟨_, rfl⟩
  rw [← hn] at hlm ⊢
  have HN := Lib.hid hn
  have H := Lib.hid h
  clear hn h
  obtain ⟨vk, vn, vs⟩ := v
  go_enter Try.func22, Try.ntmps22
  go_wp2_with fail
  go_loopw [7, 14] (fun vn_ vi wr => ∃ (i : Nat) (z : Int), vi = .int .i64 i ∧ vn_ = .int .i64 z ∧ i ≤ n ∧ Hid (z = sumC (lies ⟨vk, vn, vs⟩ too) 0 (l.take i)) ∧ Hid (Below (w.heap.size + 2) ((w.alloc (.cells #[.int .i64 d, .int .i64 nn, .slice q n c] 29)).alloc (.cells #[.int .i64 vk, .int .i64 vn, .string vs] 31)) wr)) (fun _ vi _ => n - (intOf vi).toNat)
  case atStart => exact ⟨0, 0, rfl, rfl, by omega, rfl, Below.refl _ _⟩
  case round =>
    obtain ⟨i, z, rfl, rfl, hi, hA, hB⟩ := hrel
    obtain ⟨V, hV⟩ : ∃ V, V = wr := ⟨_, rfl⟩
    rw [← hV] at hB
    rw [← hV]
    have HA := Lib.hid hA
    have hsz := hB.out.size
    simp only [World.size_alloc] at hsz
    have hb0 := (hB.out.cell (p := ⟨w.heap.size + 1, 0, none⟩) (by simp)).trans (by simp [go_sem] : _ = some (.int .i64 vk))
    have hb1 := (hB.out.cell (p := ⟨w.heap.size + 1, 1, none⟩) (by simp)).trans (by simp [go_sem] : _ = some (.int .i64 vn))
    have hb2 := (hB.out.cell (p := ⟨w.heap.size + 1, 2, none⟩) (by simp)).trans (by simp [go_sem] : _ = some (.string vs))
    have HB := Lib.hid (show Below w.heap.size w V from ((ext_alloc (ext_alloc (ext_refl _) _) _).trans (hB.out.mono (by omega))))
    have HW := Lib.hid hB.out
    have hbV : w.heap.size + 1 < V.heap.size := by omega
    clear hA hB hV hsz
    by_cases hlt : i < n
    · have hil : i < l.length := by rw [← HN.out]; exact hlt
      obtain ⟨g, off, hq, -, hg, ⟨hc0, hc1, hc2⟩, hc3⟩ := ArrA.at_ (StepsA.same H.out (Same.of HB.out (Nat.le_refl _))) hil
      subst hq
      obtain ⟨s, hs⟩ : ∃ s, s = l[i] := ⟨_, rfl⟩
      rw [← hs] at hc0 hc1 hc2 hc3
      have HX := Lib.hid (show l[i]? = some s by rw [hs, List.getElem?_eq_getElem hil])
      have hgV : g < V.heap.size := Nat.lt_of_lt_of_le hg HB.out.size
      clear hs hg
      have HL := Lib.hid (lies_at (v := ⟨vk, vn, vs⟩) (too := too) (s := s))
      have CM := fun W => compare_any s.x ⟨vk, vn, vs⟩ W
      obtain ⟨ci, hci⟩ : ∃ ci, ci = s.x.cmp ⟨vk, vn, vs⟩ := ⟨_, rfl⟩
      rw [← hci] at HL CM
      clear hci
      obtain ⟨⟨xk, xn, xs⟩, m⟩ := s
      simp only at hc0 hc1 hc2 hc3 CM
      have done : ∀ (z' : Int) (b : Bool), lies ⟨vk, vn, vs⟩ too ⟨⟨xk, xn, xs⟩, m⟩ = b → z' = (if b then addC z m else z) → z' = sumC (lies ⟨vk, vn, vs⟩ too) 0 (l.take (i + 1)) := by
        intro z' b h1 h2
        rw [sumC_snoc _ _ _ _ _ HX.out, h1, h2, ← HA.out.out]
      have DONE := Lib.hid done
      clear done
      by_cases hneg : ci < 0
      · go_wp2_with (first | (go_at_call 24; go_must (refine (CM _).mono ?_; rintro e w1 ⟨rfl, hb⟩; obtain ⟨hc, hz, hf⟩ := kept hb)) | (go_at_call 12; refine (add_any _ _ _).mono ?_; rintro e w1 ⟨rfl, rfl⟩))
        go_roundw
        case rel => exact ⟨i + 1, addC z m, by go_num, rfl, hlt, DONE.out _ true (by rw [HL.out]; simp [hneg]) rfl, HW.out.trans (Below.mono (by first | exact hb | exact ext_trans (ext_alloc (ext_refl _) _) hb) (by omega))⟩
        case measure => simp [intOf] <;> omega
      · have hneg' : (decide (ci < 0)) = false := by simpa using hneg
        have hge : 0 ≤ ci := by omega
        cases too with
        | false =>
          go_wp2_with (first | (go_at_call 24; go_must (refine (CM _).mono ?_; rintro e w1 ⟨rfl, hb⟩; obtain ⟨hc, hz, hf⟩ := kept hb)) | (go_at_call 12; refine (add_any _ _ _).mono ?_; rintro e w1 ⟨rfl, rfl⟩))
          go_roundw
          case rel => exact ⟨i + 1, z, by go_num, rfl, hlt, DONE.out _ false (by rw [HL.out]; simp [hneg']) rfl, HW.out.trans (Below.mono (by first | exact hb | exact ext_trans (ext_alloc (ext_refl _) _) hb) (by omega))⟩
          case measure => simp [intOf] <;> omega
        | true =>
          by_cases h0 : ci = 0
          · have h0' : (ci == 0) = true := by simpa using h0
            have HC := Lib.hid h0
            clear h0
            go_wp2_with (first | (go_at_call 24; go_must (refine (CM _).mono ?_; rintro e w1 ⟨rfl, hb⟩; obtain ⟨hc, hz, hf⟩ := kept hb)) | (go_at_call 12; refine (add_any _ _ _).mono ?_; rintro e w1 ⟨rfl, rfl⟩))
            go_roundw
            case rel => exact ⟨i + 1, addC z m, by go_num, rfl, hlt, DONE.out _ true (by rw [HL.out]; simp [HC.out]) rfl, HW.out.trans (Below.mono (by first | exact hb | exact ext_trans (ext_alloc (ext_refl _) _) hb) (by omega))⟩
            case measure => simp [intOf] <;> omega
          · have h0' : (ci == 0) = false := by simpa using h0
            go_wp2_with (first | (go_at_call 24; go_must (refine (CM _).mono ?_; rintro e w1 ⟨rfl, hb⟩; obtain ⟨hc, hz, hf⟩ := kept hb)) | (go_at_call 12; refine (add_any _ _ _).mono ?_; rintro e w1 ⟨rfl, rfl⟩))
            go_roundw
            case rel => exact ⟨i + 1, z, by go_num, rfl, hlt, DONE.out _ false (by rw [HL.out]; simp [hneg', h0']) rfl, HW.out.trans (Below.mono (by first | exact hb | exact ext_trans (ext_alloc (ext_refl _) _) hb) (by omega))⟩
            case measure => simp [intOf] <;> omega
    · obtain rfl : i = n := by omega
      have HL := Lib.hid (show z = belowL ⟨vk, vn, vs⟩ too l by have h2 := HA.out.out; rw [HN.out, List.take_length] at h2; exact h2)
      go_wp2_with fail
      go_ret
      exact ⟨by rw [HL.out]; rfl, HB.out⟩

set_option maxHeartbeats 4000000 in
theorem rmany_any (d nn : Int) (q : Option Addr) (l : List Stp) (c : Nat) (w : World) (hlm : l.length ≤ 9223372036854775807) (h : StepsA w 0 w.heap.size q l) :
    Calls Try.prog 21 #[.agg #[.int .i64 d, .int .i64 nn, .slice q l.length c]] w fun e w' => e = .returned (.int .i64 (manyL l)) ∧ Below w.heap.size w w' := by
  obtain ⟨n, hn⟩ : ∃ n, n = l.length := ⟨_, rfl⟩
  rw [← hn] at hlm ⊢
  have HN := Lib.hid hn
  have H := Lib.hid h
  clear hn h
  go_enter Try.func21, Try.ntmps21
  go_wp2_with fail
  go_loopw [3, 4] (fun vn vi wr => ∃ (i : Nat) (z : Int), vi = .int .i64 i ∧ vn = .int .i64 z ∧ i ≤ n ∧ Hid (z = sumC (fun _ => true) 0 (l.take i)) ∧ Hid (Below (w.heap.size + 1) (w.alloc (.cells #[.int .i64 d, .int .i64 nn, .slice q n c] 29)) wr)) (fun _ vi _ => n - (intOf vi).toNat)
  case atStart => exact ⟨0, 0, rfl, rfl, by omega, rfl, Below.refl _ _⟩
  case round =>
    obtain ⟨i, z, rfl, rfl, hi, hA, hB⟩ := hrel
    obtain ⟨V, hV⟩ : ∃ V, V = wr := ⟨_, rfl⟩
    rw [← hV] at hB
    rw [← hV]
    have HA := Lib.hid hA
    have hsz := hB.out.size
    simp only [World.size_alloc] at hsz
    have hb2 := (hB.out.cell (p := ⟨w.heap.size, 2, none⟩) (by simp)).trans (by simp [go_sem] : _ = some (.slice q n c))
    have HB := Lib.hid (show Below w.heap.size w V from ((ext_alloc (ext_refl _) _).trans (hB.out.mono (by omega))))
    have HW := Lib.hid hB.out
    have hbV : w.heap.size < V.heap.size := by omega
    clear hA hB hV hsz
    by_cases hlt : i < n
    · have hil : i < l.length := by rw [← HN.out]; exact hlt
      obtain ⟨g, off, hq, -, hg, -, hc3⟩ := ArrA.at_ (StepsA.same H.out (Same.of HB.out (Nat.le_refl _))) hil
      subst hq
      obtain ⟨s, hs⟩ : ∃ s, s = l[i] := ⟨_, rfl⟩
      rw [← hs] at hc3
      have HX := Lib.hid (show l[i]? = some s by rw [hs, List.getElem?_eq_getElem hil])
      have hgV : g < V.heap.size := Nat.lt_of_lt_of_le hg HB.out.size
      clear hs hg
      obtain ⟨⟨xk, xn, xs⟩, m⟩ := s
      simp only at hc3
      go_wp2_with (go_at_call 13; refine (radd_any _ _ _).mono ?_; rintro e w1 ⟨rfl, rfl⟩)
      go_roundw
      case rel => exact ⟨i + 1, addC z m, by go_num, rfl, hlt, by show addC z m = _; rw [sumC_snoc _ _ _ _ _ HX.out, if_pos rfl, ← HA.out.out], HW.out⟩
      case measure => simp [intOf] <;> omega
    · obtain rfl : i = n := by omega
      have HL := Lib.hid (show z = manyL l by have h2 := HA.out.out; rw [HN.out, List.take_length] at h2; exact h2)
      go_wp2_with fail
      go_ret
      exact ⟨by rw [HL.out]; rfl, HB.out⟩

set_option maxHeartbeats 4000000 in
theorem rbelow_any (d nn : Int) (q : Option Addr) (l : List Stp) (c : Nat) (v : Val) (too : Bool) (w : World) (hlm : l.length ≤ 9223372036854775807) (h : StepsA w 0 w.heap.size q l) :
    Calls Try.prog 23 #[.agg #[.int .i64 d, .int .i64 nn, .slice q l.length c], v.v, .bool too] w fun e w' => e = .returned (.int .i64 (belowL v too l)) ∧ Below w.heap.size w w' := by
  obtain ⟨n, hn⟩ : ∃ n, n = l.length := ⟨_, rfl⟩
  rw [← hn] at hlm ⊢
  have HN := Lib.hid hn
  have H := Lib.hid h
  clear hn h
  obtain ⟨vk, vn, vs⟩ := v
  go_enter Try.func23, Try.ntmps23
  go_wp2_with fail
  go_loopw [7, 8] (fun vn_ vi wr => ∃ (i : Nat) (z : Int), vi = .int .i64 i ∧ vn_ = .int .i64 z ∧ i ≤ n ∧ Hid (z = sumC (lies ⟨vk, vn, vs⟩ too) 0 (l.take i)) ∧ Hid (Below (w.heap.size + 2) ((w.alloc (.cells #[.int .i64 d, .int .i64 nn, .slice q n c] 29)).alloc (.cells #[.int .i64 vk, .int .i64 vn, .string vs] 31)) wr)) (fun _ vi _ => n - (intOf vi).toNat)
  case atStart => exact ⟨0, 0, rfl, rfl, by omega, rfl, Below.refl _ _⟩
  case round =>
    obtain ⟨i, z, rfl, rfl, hi, hA, hB⟩ := hrel
    obtain ⟨V, hV⟩ : ∃ V, V = wr := ⟨_, rfl⟩
    rw [← hV] at hB
    rw [← hV]
    have HA := Lib.hid hA
    have hsz := hB.out.size
    simp only [World.size_alloc] at hsz
    have hb2 := (hB.out.cell (p := ⟨w.heap.size, 2, none⟩) (by simp)).trans (by simp [go_sem] : _ = some (.slice q n c))
    have hv0 := (hB.out.cell (p := ⟨w.heap.size + 1, 0, none⟩) (by simp)).trans (by simp [go_sem] : _ = some (.int .i64 vk))
    have hv1 := (hB.out.cell (p := ⟨w.heap.size + 1, 1, none⟩) (by simp)).trans (by simp [go_sem] : _ = some (.int .i64 vn))
    have hv2 := (hB.out.cell (p := ⟨w.heap.size + 1, 2, none⟩) (by simp)).trans (by simp [go_sem] : _ = some (.string vs))
    have HB := Lib.hid (show Below w.heap.size w V from ((ext_alloc (ext_alloc (ext_refl _) _) _).trans (hB.out.mono (by omega))))
    have HW := Lib.hid hB.out
    have hbV : w.heap.size + 1 < V.heap.size := by omega
    have hbV0 : w.heap.size < V.heap.size := by omega
    clear hA hB hV hsz
    by_cases hlt : i < n
    · have hil : i < l.length := by rw [← HN.out]; exact hlt
      obtain ⟨g, off, hq, -, hg, ⟨hc0, hc1, hc2⟩, hc3⟩ := ArrA.at_ (StepsA.same H.out (Same.of HB.out (Nat.le_refl _))) hil
      subst hq
      obtain ⟨s, hs⟩ : ∃ s, s = l[i] := ⟨_, rfl⟩
      rw [← hs] at hc0 hc1 hc2 hc3
      have HX := Lib.hid (show l[i]? = some s by rw [hs, List.getElem?_eq_getElem hil])
      have hgV : g < V.heap.size := Nat.lt_of_lt_of_le hg HB.out.size
      clear hs hg
      have HL := Lib.hid (lies_at (v := ⟨vk, vn, vs⟩) (too := too) (s := s))
      have CM := fun W => rcompare_any s.x ⟨vk, vn, vs⟩ W
      obtain ⟨ci, hci⟩ : ∃ ci, ci = s.x.cmp ⟨vk, vn, vs⟩ := ⟨_, rfl⟩
      rw [← hci] at HL CM
      clear hci
      obtain ⟨⟨xk, xn, xs⟩, m⟩ := s
      simp only at hc0 hc1 hc2 hc3 CM
      have q0 := fun (z : After V) => (z.cell g _ hgV).trans hc0
      have q1 := fun (z : After V) => (z.cell g _ hgV).trans hc1
      have q2 := fun (z : After V) => (z.cell g _ hgV).trans hc2
      have p0 := fun (z : After V) => (z.cell (w.heap.size + 1) _ hbV).trans hv0
      have p1 := fun (z : After V) => (z.cell (w.heap.size + 1) _ hbV).trans hv1
      have p2 := fun (z : After V) => (z.cell (w.heap.size + 1) _ hbV).trans hv2
      have r2 := fun (z : After V) => (z.cell w.heap.size _ hbV0).trans hb2
      have is := After.some V
      clear hc0 hc1 hc2 hv0 hv1 hv2
      have done : ∀ (z' : Int) (b : Bool), lies ⟨vk, vn, vs⟩ too ⟨⟨xk, xn, xs⟩, m⟩ = b → z' = (if b then addC z m else z) → z' = sumC (lies ⟨vk, vn, vs⟩ too) 0 (l.take (i + 1)) := by
        intro z' b h1 h2
        rw [sumC_snoc _ _ _ _ _ HX.out, h1, h2, ← HA.out.out]
      have DONE := Lib.hid done
      clear done
      go_wp2_with fail
      refine wp_region_after (by kernel_rfl) (by kernel_rfl) ?_
      repeat (quiet_step ((first | (go_at_call 30; exact calls_after (CM _)))))
      refine wpQuiet_nil ?_
      intro _ hw
      obtain ⟨⟨W1, hb⟩, rfl⟩ := hw
      have w3 := (hb.cell (p := ⟨g, _, none⟩) hgV).trans hc3
      have wb := (hb.cell (p := ⟨w.heap.size, _, none⟩) hbV0).trans hb2
      have HBZ := Lib.hid hb
      clear q0 q1 q2 p0 p1 p2 r2 is hb CM hc3 hb2
      by_cases hneg : ci < 0
      · go_wp2_with (go_at_call 13; refine (radd_any _ _ _).mono ?_; rintro e w1 ⟨rfl, rfl⟩)
        go_roundw
        case rel => exact ⟨i + 1, addC z m, by go_num, rfl, hlt, DONE.out _ true (by rw [HL.out]; simp [hneg]) rfl, HW.out.trans (HBZ.out.mono (by omega))⟩
        case measure => simp [intOf] <;> omega
      · have hneg' : (decide (ci < 0)) = false := by simpa using hneg
        have hge : 0 ≤ ci := by omega
        cases too with
        | false =>
          go_wp2_with (go_at_call 13; refine (radd_any _ _ _).mono ?_; rintro e w1 ⟨rfl, rfl⟩)
          go_roundw
          case rel => exact ⟨i + 1, z, by go_num, rfl, hlt, DONE.out _ false (by rw [HL.out]; simp [hneg']) rfl, HW.out.trans (HBZ.out.mono (by omega))⟩
          case measure => simp [intOf] <;> omega
        | true =>
          by_cases h0 : ci = 0
          · have h0' : (ci == 0) = true := by simpa using h0
            have HC := Lib.hid h0
            clear h0
            go_wp2_with (go_at_call 13; refine (radd_any _ _ _).mono ?_; rintro e w1 ⟨rfl, rfl⟩)
            go_roundw
            case rel => exact ⟨i + 1, addC z m, by go_num, rfl, hlt, DONE.out _ true (by rw [HL.out]; simp [HC.out]) rfl, HW.out.trans (HBZ.out.mono (by omega))⟩
            case measure => simp [intOf] <;> omega
          · have h0' : (ci == 0) = false := by simpa using h0
            go_wp2_with (go_at_call 13; refine (radd_any _ _ _).mono ?_; rintro e w1 ⟨rfl, rfl⟩)
            go_roundw
            case rel => exact ⟨i + 1, z, by go_num, rfl, hlt, DONE.out _ false (by rw [HL.out]; simp [hneg', h0']) rfl, HW.out.trans (HBZ.out.mono (by omega))⟩
            case measure => simp [intOf] <;> omega
    · obtain rfl : i = n := by omega
      have HL := Lib.hid (show z = belowL ⟨vk, vn, vs⟩ too l by have h2 := HA.out.out; rw [HN.out, List.take_length] at h2; exact h2)
      go_wp2_with fail
      go_ret
      exact ⟨by rw [HL.out]; rfl, HB.out⟩

end Go.Proofs.Ytkgdbpfpjpiejaa
