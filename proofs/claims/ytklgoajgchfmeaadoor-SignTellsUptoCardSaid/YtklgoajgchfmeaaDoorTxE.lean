/- A part of the proof. -/
import Derived.Test.YtklgoajgchfmeaaDoorLay
import Derived.Test.YtklgoajgchfmeaaDoorKe
import Derived.Test.YtklgoajgchfmeaaDoorKf
import Derived.Test.YtklgoajgchfmeaaDoorKg
import Derived.Lib.AppendIntMem
import Derived.Lib.ItoaLen
import Derived.StillTailTactics
import Derived.Test.YtklgoajgchfmeaaDoorKh
import Derived.Lib.AppendStr
import Derived.Test.YtklgoajgchfmeaaDoorKi
set_option linter.unusedVariables false
set_option linter.unusedSimpArgs false
namespace Go.Proofs.YtklgoajgchfmeaaDoor
open Go.RowKit Go.Shelf
set_option maxRecDepth 100000
theorem inR_iff {n : Int} : inR n = true ↔ -9223372036854775808 ≤ n ∧ n ≤ 9223372036854775807 := by simp [inR]
theorem itoa_any (n : Int) (hn : inR n = true) (w : World) (hG : GE w) : Calls Tryd.prog 66 #[.int .i64 n] w fun e w' => e = .returned (.string (bsB (Lib.itoa n))) ∧ Below w.heap.size w w' := by
  have h : Calls Tryd.prog 66 #[.int .i64 n] w _ := Any.strconv_Itoa Tryd.laysM171 n (inR_iff.1 hn).1 (inR_iff.1 hn).2 w hG.pow
  refine h.mono ?_
  rintro e w' ⟨rfl, k, os, rfl⟩
  exact ⟨rfl, Lib.below_grow _ _ (Nat.le_refl _) _ _⟩
theorem size_inR {k n : Int} {s : ByteArray} (h : Val.right ⟨k, n, s⟩ = true) : k = 3 → inR (s.size : Int) = true ∧ s.size ≤ 40 := by
  intro e
  subst e
  simp [Val.right] at h
  rw [inR_iff]
  exact ⟨by omega, h.2⟩
def dgs (n : Int) : ByteArray := bsB (Lib.itoa n)
theorem dgs_le (n : Int) (hn : inR n = true) : (dgs n).size ≤ 21 := Lib.itoa_length_le n (inR_iff.1 hn).1 (inR_iff.1 hn).2
theorem dgs_any (n : Int) (hn : inR n = true) (w : World) (hG : GE w) : Calls Tryd.prog 66 #[.int .i64 n] w fun e w' => e = .returned (.string (dgs n)) ∧ Below w.heap.size w w' := itoa_any n hn w hG
theorem cat2 (b : UInt8) (n : Int) : (⟨#[b]⟩ : ByteArray) ++ dgs n = bsB (b :: Lib.itoa n) := bsB_add [b] (Lib.itoa n)
theorem cat4 (b c : UInt8) (n : Int) (s : ByteArray) : (⟨#[b]⟩ : ByteArray) ++ dgs n ++ ⟨#[c]⟩ ++ s = bsB (b :: Lib.itoa n ++ [c] ++ s.data.toList) := by
  have e1 := cat2 b n
  have e2 := bsB_add (b :: Lib.itoa n) [c]
  have e3 := bsB_add (b :: Lib.itoa n ++ [c]) s.data.toList
  rw [e1]
  exact (congrArg (· ++ s) e2).trans e3
set_option maxHeartbeats 4000000 in
theorem constant_any (v : Val) (hr : v.right = true) (hv : inR v.n = true) (w : World) (hG : GE w) : Calls Tryd.prog 82 #[v.v] w fun e w' => e = .returned (.string (bsB (printV v))) ∧ Below w.heap.size w w' := by
  obtain ⟨k, n, s⟩ := v
  have HB := Lib.hid (show Below w.heap.size w (w.alloc (.cells #[.int .i64 k, .int .i64 n, .string s] 23)) from ext_alloc (ext_refl _) _)
  have HG := Lib.hid (hG.alloc (.cells #[.int .i64 k, .int .i64 n, .string s] 23))
  have HI := Lib.hid (fun w => dgs_any n hv w)
  have HN := Lib.hid hv
  have hs := right_shape hr
  have HS := Lib.hid (size_inR hr)
  clear hG hv hr
  simp only at hs
  rcases hs with ⟨rfl, -, -⟩ | ⟨rfl, -⟩ | ⟨rfl, -⟩ | ⟨rfl, -⟩
  · go_enter Tryd.func82, Tryd.ntmps82
    go_wp2
    refine bodyPost_ret (v := .string (bsB [78])) (by simp [results, Tryd.results82, go_sem]) rfl ⟨rfl, HB.out⟩
  · have HQ := Lib.hid (show printV ⟨1, n, s⟩ = 73 :: Lib.itoa n by unfold printV; simp)
    have hl := dgs_le n HN.out
    obtain ⟨D, hD⟩ : ∃ D, D = dgs n := ⟨_, rfl⟩
    rw [← hD] at hl HI
    have g0 : ¬ 9223372036854775807 < 1 + D.size := by omega
    have HD := Lib.hid (show (⟨#[73]⟩ : ByteArray) ++ D = bsB (73 :: Lib.itoa n) by rw [hD]; exact cat2 73 n)
    clear hl hD
    go_enter Tryd.func82, Tryd.ntmps82
    go_wp2_with fail
    refine (HI.out _ HG.out).mono ?_
    rintro e X ⟨rfl, hbX⟩
    have HBX := Lib.hid (HB.out.trans (hbX.mono HB.out.size))
    clear hbX
    go_wp2_with fail
    refine bodyPost_ret (v := .string (⟨#[73]⟩ ++ D)) (by simp [results, Tryd.results82, go_sem]) rfl ⟨by rw [HQ.out, HD.out], HBX.out⟩
  · have HQ := Lib.hid (show printV ⟨2, n, s⟩ = 66 :: Lib.itoa n by unfold printV; simp)
    have hl := dgs_le n HN.out
    obtain ⟨D, hD⟩ : ∃ D, D = dgs n := ⟨_, rfl⟩
    rw [← hD] at hl HI
    have g0 : ¬ 9223372036854775807 < 1 + D.size := by omega
    have HD := Lib.hid (show (⟨#[66]⟩ : ByteArray) ++ D = bsB (66 :: Lib.itoa n) by rw [hD]; exact cat2 66 n)
    clear hl hD
    go_enter Tryd.func82, Tryd.ntmps82
    go_wp2_with fail
    refine (HI.out _ HG.out).mono ?_
    rintro e X ⟨rfl, hbX⟩
    have HBX := Lib.hid (HB.out.trans (hbX.mono HB.out.size))
    clear hbX
    go_wp2_with fail
    refine bodyPost_ret (v := .string (⟨#[66]⟩ ++ D)) (by simp [results, Tryd.results82, go_sem]) rfl ⟨by rw [HQ.out, HD.out], HBX.out⟩
  · have HQ := Lib.hid (show printV ⟨3, n, s⟩ = 84 :: Lib.itoa s.size ++ [58] ++ s.data.toList by unfold printV; simp)
    have HI3 := Lib.hid (fun (x : After (w.alloc (.cells #[.int .i64 3, .int .i64 n, .string s] 23))) => calls_after (dgs_any s.size (HS.out rfl).1 x.W (HG.out.on x.below)))
    have c0 : (w.alloc (.cells #[.int .i64 3, .int .i64 n, .string s] 23)).cell? ⟨w.heap.size, 2, none⟩ = some (.string s) := by simp [go_sem]
    have lt : w.heap.size < (w.alloc (.cells #[.int .i64 3, .int .i64 n, .string s] 23)).heap.size := by simp
    have hl := dgs_le s.size (HS.out rfl).1
    have hsl := (HS.out rfl).2
    obtain ⟨D, hD⟩ : ∃ D, D = dgs s.size := ⟨_, rfl⟩
    rw [← hD] at hl HI3
    have g0 : ¬ 9223372036854775807 < 1 + D.size := by omega
    have g1 : ¬ 9223372036854775807 < 1 + D.size + 1 := by omega
    have g2 : ¬ 9223372036854775807 < 1 + D.size + 1 + s.size := by omega
    have HD := Lib.hid (show (⟨#[84]⟩ : ByteArray) ++ D ++ ⟨#[58]⟩ ++ s = bsB (84 :: Lib.itoa s.size ++ [58] ++ s.data.toList) by rw [hD]; exact cat4 84 58 s.size s)
    clear hl hsl hD
    go_enter Tryd.func82, Tryd.ntmps82
    go_upto_region 7 with fail
    obtain ⟨g, hg⟩ : ∃ g, g = w.heap.size := ⟨_, rfl⟩
    obtain ⟨W, hW⟩ : ∃ W, W = w.alloc (.cells #[.int .i64 3, .int .i64 n, .string s] 23) := ⟨_, rfl⟩
    rw [← hW] at HI3 c0 lt HB
    rw [← hg] at c0 lt
    rw [← hW, ← hg]
    clear hW hg
    have r0 := fun (x : After W) => (x.cell g 2 lt).trans c0
    have is := After.some W
    refine wp_region_after (by kernel_rfl) (by kernel_rfl) ?_
    repeat (quiet_step ((go_at_call 66; exact HI3.out _)))
    refine wpQuiet_nil ?_
    intro Wq hw
    obtain ⟨⟨Wq, hbq⟩, rfl⟩ := hw
    go_wp2_with fail
    refine bodyPost_ret (v := .string (⟨#[84]⟩ ++ D ++ ⟨#[58]⟩ ++ s)) (by simp [results, Tryd.results82, go_sem]) rfl ⟨by rw [HQ.out, HD.out], HB.out.trans (hbq.mono HB.out.size)⟩
open Go.RowKit Go.Shelf
set_option maxRecDepth 100000
theorem inR_small {n : Int} (h0 : 0 ≤ n) (h1 : n ≤ 100) : inR n = true := by rw [inR_iff]; omega
theorem print_ref {v : Val} {rel col n : Int} {s : ByteArray} {l : List Ex} : (Ex.mk 2 v rel col n s l).print = 82 :: Lib.itoa rel ++ [46] ++ Lib.itoa col := by rw [Ex.print, if_neg (by decide), if_pos rfl]
theorem print_par {v : Val} {rel col n : Int} {s : ByteArray} {l : List Ex} : (Ex.mk 3 v rel col n s l).print = 80 :: Lib.itoa n := by rw [Ex.print, if_neg (by decide), if_neg (by decide), if_pos rfl]
set_option maxHeartbeats 4000000 in
theorem leaf_any (op : Int) (v : Val) (rel col n : Int) (s : ByteArray) (q : Option Addr) (c : Nat) (w : World) (hh : headOk op v rel col n s 0 = true) (hv : inR v.n = true) (hG : GE w) :
    Calls Tryd.prog 65 #[.agg (exCells op v rel col n s q 0 c).toArray] w fun e w' => e = .returned (.string (bsB (Ex.mk op v rel col n s []).print)) ∧ Below w.heap.size w w' := by
  have HH := Lib.hid hh
  have HG := Lib.hid hG
  have HV := Lib.hid hv
  have hs := (head_shape hh).2
  clear hh hG hv
  have E0 := EB.new w op v rel col n s q 0 c 26
  have B0 : Below w.heap.size w (w.alloc (.cells (exCells op v rel col n s q 0 c).toArray 26)) := ext_alloc (ext_refl _) _
  obtain ⟨W, hW⟩ : ∃ W, W = w.alloc (.cells (exCells op v rel col n s q 0 c).toArray 26) := ⟨_, rfl⟩
  rw [← hW] at E0 B0
  go_enter Tryd.func65, Tryd.ntmps65
  go_upto_region 1 with fail
  rw [← hW]
  clear hW
  obtain ⟨g, hg⟩ : ∃ g, g = w.heap.size := ⟨_, rfl⟩
  have HB := Lib.hid B0
  have HGW := Lib.hid hg
  rw [← hg] at E0
  rw [← hg]
  clear B0 hg
  have HE := Lib.hid E0
  obtain ⟨lt, c0, c1, c2, c3, c4, c5, c6, c7, c8⟩ := E0
  rcases hs with ⟨rfl, -, -, -, -, hr⟩ | ⟨rfl, -, -, -⟩ | ⟨rfl, -, -, -, -⟩ | ⟨h4, -, -, -, -, -, hw⟩
  · have HR := Lib.hid hr
    clear hr
    go_wp2_with fail
    refine (constant_any v HR.out HV.out W (HG.out.on HB.out)).mono ?_
    rintro e X ⟨rfl, hbX⟩
    have HBX := Lib.hid (HB.out.trans (hbX.mono HB.out.size))
    clear hbX lt c0 c1 c2 c3 c4 c5 c6 c7 c8
    go_wp2_with fail
    refine bodyPost_ret (v := .string (bsB (printV v))) (by simp [results, Tryd.results65, go_sem]) rfl ⟨by rw [print_leaf1], HBX.out⟩
  · have h1 := rel_ok HH.out rfl
    have h2 := dcol_ok HH.out rfl
    have i1 := inR_small h1.1 (by omega : rel ≤ 100)
    have i2 := inR_small h2.1 (by omega : col ≤ 100)
    have HI1 := Lib.hid (fun (x : After W) => calls_after (dgs_any rel i1 x.W ((HG.out.on HB.out).on x.below)))
    have HI2 := Lib.hid (fun (x : After W) => calls_after (dgs_any col i2 x.W ((HG.out.on HB.out).on x.below)))
    have hl := dgs_le rel i1
    have hl2 := dgs_le col i2
    obtain ⟨D, hD⟩ : ∃ D, D = dgs rel := ⟨_, rfl⟩
    obtain ⟨E, hE⟩ : ∃ E, E = dgs col := ⟨_, rfl⟩
    rw [← hD] at hl HI1
    rw [← hE] at hl2 HI2
    have g0 : ¬ 9223372036854775807 < 1 + D.size := by omega
    have g1 : ¬ 9223372036854775807 < 1 + D.size + 1 := by omega
    have g2 : ¬ 9223372036854775807 < 1 + D.size + 1 + E.size := by omega
    have HQ := Lib.hid (show (⟨#[82]⟩ : ByteArray) ++ D ++ ⟨#[46]⟩ ++ E = bsB (82 :: Lib.itoa rel ++ [46] ++ Lib.itoa col) by rw [hD, hE]; exact cat4 82 46 rel (dgs col))
    have r0 := fun (x : After W) => (x.cell g 2 lt)
    have r4 := fun (x : After W) => (x.cell g 4 lt).trans c4
    have r5 := fun (x : After W) => (x.cell g 5 lt).trans c5
    clear h1 h2 i1 i2 hl hl2 hD hE r0
    go_upto_region 3 with fail
    have is := After.some W
    refine wp_region_after (by kernel_rfl) (by kernel_rfl) ?_
    repeat (quiet_step ((go_at_call 66; first | exact HI1.out _ | exact HI2.out _)))
    refine wpQuiet_nil ?_
    intro Wq hw
    obtain ⟨⟨Wq, hbq⟩, rfl⟩ := hw
    go_wp2_with fail
    refine bodyPost_ret (v := .string (⟨#[82]⟩ ++ D ++ ⟨#[46]⟩ ++ E)) (by simp [results, Tryd.results65, go_sem]) rfl ⟨by rw [HQ.out, print_ref], HB.out.trans (hbq.mono HB.out.size)⟩
  · have h1 := n_ok HH.out rfl
    have i1 := inR_small (show 0 ≤ n by omega) (by omega : n ≤ 100)
    have HI := Lib.hid (fun w => dgs_any n i1 w)
    have hl := dgs_le n i1
    obtain ⟨D, hD⟩ : ∃ D, D = dgs n := ⟨_, rfl⟩
    rw [← hD] at hl HI
    have g0 : ¬ 9223372036854775807 < 1 + D.size := by omega
    have HQ := Lib.hid (show (⟨#[80]⟩ : ByteArray) ++ D = bsB (80 :: Lib.itoa n) by rw [hD]; exact cat2 80 n)
    clear hl hD h1 i1
    go_wp2_with fail
    refine (HI.out _ (HG.out.on HB.out)).mono ?_
    rintro e X ⟨rfl, hbX⟩
    have HBX := Lib.hid (HB.out.trans (hbX.mono HB.out.size))
    clear hbX lt c0 c1 c2 c3 c4 c5 c6 c7 c8
    go_wp2_with fail
    refine bodyPost_ret (v := .string (⟨#[80]⟩ ++ D)) (by simp [results, Tryd.results65, go_sem]) rfl ⟨by rw [HQ.out, print_par], HBX.out⟩
  · exfalso
    unfold wantsOf at hw
    split at hw
    · omega
    · split at hw
      · omega
      · split at hw <;> omega
open Go.RowKit Go.Shelf
set_option maxRecDepth 100000
theorem OwnB.blk {W : World} {B : Nat} {v : Value} {l : List Int} (h : OwnB W B v l) {k : Nat} (hk : v.ownBlock = some k) : (∃ cur, W.heap[k]? = some (.cells cur 5 (0, 0))) ∧ B ≤ k := by
  rcases h.2 with ⟨rfl, _⟩ | ⟨g, cap, cur, rfl, hb, hg, _⟩
  · cases hk
  · cases hk
    exact ⟨⟨cur, hg⟩, hb⟩
structure KT (A : Nat) (W W' : World) : Prop where
  size : W.heap.size ≤ W'.heap.size
  same : ∀ k cs t z, k ≠ A → W.heap[k]? = some (.cells cs t z) → t ≠ 5 → W'.heap[k]? = some (.cells cs t z)
theorem KT.trans {A : Nat} {W W' W'' : World} (h : KT A W W') (k : KT A W' W'') : KT A W W'' := ⟨Nat.le_trans h.size k.size, fun i cs t z hi hc ht => k.same i cs t z hi (h.same i cs t z hi hc ht) ht⟩
theorem KT.of_below {A : Nat} {W W' : World} (h : Below W.heap.size W W') : KT A W W' := ⟨h.size, fun k _ _ _ _ hk _ => (h.block k (Array.getElem?_eq_some_iff.1 hk).1).trans hk⟩
theorem KT.set {A : Nat} {W W' : World} (h : KT A W W') (u : Value) : KT A W (W'.setCell ⟨A, 0, none⟩ u) := ⟨by rw [World.size_setCell]; exact h.size, fun k cs t z hk hc ht => (heap_setCell_other W' ⟨A, 0, none⟩ k u hk).trans (h.same k cs t z hk hc ht)⟩
theorem KT.grown {A : Nat} {W W' : World} {B : Nat} {v : Value} {l : List Int} (h : OwnB W B v l) (hg : W.grownBy W' v.ownBlock) : KT A W W' := ⟨hg.size, fun k cs t z _ hc ht => (hg.block k (Array.getElem?_eq_some_iff.1 hc).1 (fun e => by
  obtain ⟨⟨cur, hcur⟩, _⟩ := h.blk e.symm
  rw [hcur] at hc
  cases hc
  exact ht rfl)).trans hc⟩
theorem Blk.kt {A : Nat} {W W' : World} {g : Nat} {t : TypeId} {cs : Array Value} (h : Blk W g t cs) (k : KT A W W') (hg : g ≠ A) (ht : t ≠ 5) : Blk W' g t cs := k.same g cs t (0, 0) hg h ht
abbrev wrF (A F : Nat) : Value := .func (.func 64) #[] #[.pointer (some ⟨A, 0, none⟩), .pointer (some ⟨F, 0, none⟩)]
structure TX (W : World) (B A F : Nat) (l : Bs) : Prop where
  out : ∃ p n c, Blk W A 62 #[.slice p n c] ∧ OwnB W B (.slice p n c) (toJ l)
  wr : Blk W F 96 #[wrF A F]
  bA : B ≤ A
  bF : B ≤ F
theorem TX.ne {W : World} {B A F : Nat} {l : Bs} (h : TX W B A F l) : F ≠ A := fun e => by
  obtain ⟨p, n, c, h1, _⟩ := h.out
  have h2 := h.wr
  rw [e] at h2
  unfold Blk at h1 h2
  rw [h1] at h2
  cases h2
theorem TX.on {W W' : World} {B A F : Nat} {l : Bs} (h : TX W B A F l) (hb : Below W.heap.size W W') : TX W' B A F l := by
  obtain ⟨p, n, c, h1, h2⟩ := h.out
  exact ⟨⟨p, n, c, (hb.block _ h1.lt).trans h1, h2.later hb⟩, (hb.block _ h.wr.lt).trans h.wr, h.bA, h.bF⟩
theorem OwnB.set {W : World} {B A : Nat} {v : Value} {l : List Int} (h : OwnB W B v l) (hA : v.ownBlock ≠ some A) (u : Value) : OwnB (W.setCell ⟨A, 0, none⟩ u) B v l := by
  obtain ⟨h1, h2⟩ := h
  refine ⟨h1, ?_⟩
  rcases h2 with h2 | ⟨g, cap, cur, hv, hb, hg, r⟩
  · exact .inl h2
  · refine .inr ⟨g, cap, cur, hv, hb, ?_, r⟩
    rw [heap_setCell_other W ⟨A, 0, none⟩ g u (fun e => hA (by rw [hv, e]; rfl))]
    exact hg
theorem TX.put {W W1 : World} {B A F : Nat} {l l' : Bs} {p : Option Addr} {n c : Nat} (h : TX W B A F l) (hp : Blk W A 62 #[.slice p n c]) (hb : B ≤ W.heap.size) (ho : OwnB W B (.slice p n c) (toJ l)) (hg : W.grownBy W1 (Value.slice p n c).ownBlock) {p' : Option Addr} {n' c' : Nat} (ho' : OwnB W1 B (.slice p' n' c') (toJ l')) :
    (Blk W1 A 62 #[.slice p n c]) ∧ TX (W1.setCell ⟨A, 0, none⟩ (.slice p' n' c')) B A F l' ∧ KT A W (W1.setCell ⟨A, 0, none⟩ (.slice p' n' c')) ∧ Below B W (W1.setCell ⟨A, 0, none⟩ (.slice p' n' c')) := by
  have hA : Blk W1 A 62 #[.slice p n c] := (hg.block A hp.lt (fun e => by
    obtain ⟨⟨cur, hcur⟩, _⟩ := ho.blk e.symm
    unfold Blk at hp
    rw [hp] at hcur
    cases hcur)).trans hp
  have hk := KT.grown (A := A) ho hg
  have hbl : Below B W W1 := (Below.refl _ _).grown hg hb fun k hk => (ho.blk hk).2
  refine ⟨hA, ⟨⟨p', n', c', ?_, ho'.set (fun e => ?_) _⟩, ?_, h.bA, h.bF⟩, hk.set _, hbl.setCell h.bA _⟩
  · have := heap_setCell_same W1 A 0 _ _ (.slice p' n' c') hA
    simpa [Blk] using this
  · obtain ⟨⟨cur, hcur⟩, _⟩ := ho'.blk e
    unfold Blk at hA
    rw [hA] at hcur
    cases hcur
  · exact (heap_setCell_other W1 ⟨A, 0, none⟩ F _ h.ne).trans (h.wr.kt hk h.ne (by decide))
theorem wp_append_text {w : World} {ops : Array Oper} {rest : List Oper} {o : Oper} {a : Act} {Q : Exit → Act → World → Prop} (hgd : o.guard = none) (s x : Operand)
    (ho : o.op = .call { callee := .builtin .append, args := #[s, x], argTypes := #[62, 9] }) (base : Nat) (v : Value) (l : Bs) (hs : a.eval s = v) (hown : OwnB w base v (toJ l))
    (m : Bs) (t : ByteArray) (ht : t = bsB m) (hx : a.eval x = .string t) (hlen : l.length + m.length ≤ 1099511627776) (hbase : base ≤ w.heap.size)
    (h : ∀ v' w', OwnB w' base v' (toJ (l ++ m)) → w.grownBy w' v.ownBlock → wpList Tryd.prog ops Q rest (a.put o.dst v') w') : wpList Tryd.prog ops Q (o :: rest) a w := by
  obtain ⟨i0, hi, hz0, hz1, hz2⟩ := info_parts Tryd.infoU8
  have hl : (toJ l).length = l.length := by simp
  subst ht
  have hm : (bsB m).size = m.length := rfl
  refine Lib.wpList_append_own_string w hgd s x 62 9 ho base 5 i0 Tryd.underlying62 Tryd.underlying9 hi hz0 hz1 hz2 v (toJ l).length _ hs hown (bsB m) hx ?_ ?_ hbase ?_
  · rw [hl, hm]; unfold maxLen; omega
  · rw [hl, hm]; omega
  · intro v' w' h1 h2 _
    refine h v' w' ?_ h2
    unfold OwnB
    have e : toJ (l ++ m) = toJ l ++ toJ m := toJ_app l m
    rw [e, List.length_append, List.map_append]
    have e2 : Lib.strCells (bsB m) = (toJ m).map (Value.int .u8) := by simp [Lib.strCells]
    rw [e2] at h1
    have e3 : (toJ m).length = (bsB m).size := by rw [hm]; simp
    rw [e3]
    exact h1
theorem TX.conv {W : World} {B A F : Nat} {l : Bs} (h : TX W B A F l) : ∃ p n c, Blk W A 62 #[.slice p n c] ∧ (convert 62 9 (.slice p n c)).run Tryd.prog W = .ok (.string (bsB l)) W := by
  obtain ⟨p, n, c, h1, h2⟩ := h.out
  exact ⟨p, n, c, h1, conv_own h2⟩
open Go.RowKit Go.Shelf
set_option maxRecDepth 100000
structure TS (w W : World) (B A F g : Nat) (cs : Array Value) (l : Bs) : Prop where
  t : TX W B A F l
  e : Blk W g 26 cs
  k : KT A w W
  b : Below B w W
theorem TS.on {w W W' : World} {B A F g : Nat} {cs : Array Value} {l : Bs} (h : TS w W B A F g cs l) (hb : Below W.heap.size W W') (hB : B ≤ W.heap.size) : TS w W' B A F g cs l :=
  ⟨h.t.on hb, (hb.block _ h.e.lt).trans h.e, h.k.trans (KT.of_below hb), h.b.trans (hb.mono hB)⟩
theorem TS.put {w W W1 : World} {B A F g : Nat} {cs : Array Value} {l l' : Bs} {p : Option Addr} {n c : Nat} (h : TS w W B A F g cs l) (hb : B ≤ W.heap.size) (hgA : g ≠ A) (hp : Blk W A 62 #[.slice p n c]) (ho : OwnB W B (.slice p n c) (toJ l)) (hg : W.grownBy W1 (Value.slice p n c).ownBlock) {p' : Option Addr} {n' c' : Nat} (ho' : OwnB W1 B (.slice p' n' c') (toJ l')) :
    (Blk W1 A 62 #[.slice p n c]) ∧ TS w (W1.setCell ⟨A, 0, none⟩ (.slice p' n' c')) B A F g cs l' ∧ KT A W (W1.setCell ⟨A, 0, none⟩ (.slice p' n' c')) := by
  obtain ⟨h1, h2, h3, h4⟩ := h.t.put hp hb ho hg ho'
  exact ⟨h1, ⟨h2, h.e.kt h3 hgA (by decide), h.k.trans h3, h.b.trans h4⟩, h3⟩
def TextC (x : Ex) : Prop := ∀ (w0 w : World) (cs : List Value) (B A F : Nat) (l : Bs), ExM w0 x cs → Below w0.heap.size w0 w → w0.heap.size ≤ B → 3 ≤ B → GE w → TX w B A F l → l.length + x.print.length ≤ 1000000 →
  Calls Tryd.prog 64 #[.agg cs.toArray, .pointer (some ⟨A, 0, none⟩), .pointer (some ⟨F, 0, none⟩)] w fun e w' => e = .returned (.tuple #[]) ∧ TX w' B A F (l ++ x.print) ∧ KT A w w' ∧ Below B w w'
set_option maxHeartbeats 8000000 in
theorem textC_leaf (op : Int) (v : Val) (rel col n : Int) (s : ByteArray) (hh : headOk op v rel col n s 0 = true) : TextC (.mk op v rel col n s []) := by
  intro w0 w cs B A F t hx hW0 hB0 h4 hG hT hLN
  rw [ExM.iff] at hx
  simp only [List.length_nil] at hx
  obtain ⟨hv, q, c, rfl, -, hl⟩ := hx
  have HB0 := Lib.hid hB0
  have H4 := Lib.hid h4
  have HL := Lib.hid hl
  have HV := Lib.hid hv.2.1
  have HW0 := Lib.hid hW0
  have HG := Lib.hid hG
  have HLN := Lib.hid hLN
  have HH := Lib.hid hh
  have HBW := Lib.hid (show B ≤ w.heap.size by obtain ⟨_, _, _, h, _⟩ := hT.out; have := h.lt; have := hT.bA; omega)
  have hSW : TS w (w.alloc (.cells (exCells op v rel col n s q 0 c).toArray 26)) B A F w.heap.size (exCells op v rel col n s q 0 c).toArray t :=
    ⟨hT.on (ext_alloc (ext_refl _) _), Blk.new _ _ _, KT.of_below (ext_alloc (ext_refl _) _), (ext_alloc (ext_refl w) _).mono HBW.out⟩
  have HGA := Lib.hid (show w.heap.size ≠ A by obtain ⟨_, _, _, h, _⟩ := hT.out; have := h.lt; omega)
  obtain ⟨W, hW⟩ : ∃ X', X' = w.alloc (.cells (exCells op v rel col n s q 0 c).toArray 26) := ⟨_, rfl⟩
  rw [← hW] at hSW
  have HSW := Lib.hid hSW
  have HWW := Lib.hid hW
  clear hW0 hB0 h4 hl hv hG hT hLN hh hSW hW
  go_enter Tryd.func64, Tryd.ntmps64
  go_upto_region 1 with fail
  rw [← HWW.out]
  clear HWW
  obtain ⟨g, hg⟩ : ∃ g, g = w.heap.size := ⟨_, rfl⟩
  rw [← hg] at HSW HGA ⊢
  clear hg
  obtain ⟨pW, nW, kW, hAW, hOW⟩ := HSW.out.t.out
  have cA := hAW.cell (k := 0) (u := .slice pW nW kW) rfl
  have fA := frozen_of_row _ A 0 _ _ hAW
  have lA := hAW.lt
  have cF := HSW.out.t.wr.cell (k := 0) (u := wrF A F) rfl
  have lF := HSW.out.t.wr.lt
  obtain ⟨lt, c0, c1, c2, c3, c4, c5, c6, c7, c8⟩ := HSW.out.e.eb
  have HAW := Lib.hid hAW
  have HOW := Lib.hid hOW
  clear hAW hOW
  have HC := Lib.hid (fun (x : After W) => calls_after (leaf_any op v rel col n s q c x.W HH.out HV.out ((HG.out.below HSW.out.b H4.out).on x.below)))
  go_upto_region 2 with fail
  have r0 := fun (x : After W) => (x.cell A 0 lA).trans cA
  have q0 := fun (x : After W) => (x.cell g 0 lt).trans c0
  have q1 := fun (x : After W) => (x.cell g 1 lt).trans c1
  have q2 := fun (x : After W) => (x.cell g 2 lt).trans c2
  have q3 := fun (x : After W) => (x.cell g 3 lt).trans c3
  have q4 := fun (x : After W) => (x.cell g 4 lt).trans c4
  have q5 := fun (x : After W) => (x.cell g 5 lt).trans c5
  have q6 := fun (x : After W) => (x.cell g 6 lt).trans c6
  have q7 := fun (x : After W) => (x.cell g 7 lt).trans c7
  have q8 := fun (x : After W) => (x.cell g 8 lt).trans c8
  have is := After.some W
  refine wp_region_after_tail 3 (by kernel_rfl) (by kernel_rfl) ?_
  simp only [List.take_succ_cons, List.take_zero, List.drop_succ_cons, List.drop_zero]
  repeat (quiet_step ((go_at_call 65; exact HC.out _)))
  refine wpQuiet_nil ?_
  intro Wq hw
  have hbq : Below W.heap.size W Wq := by obtain ⟨x, rfl⟩ := hw; exact x.below
  clear r0 q0 q1 q2 q3 q4 q5 q6 q7 q8 is hw
  have HP := Lib.hid (HSW.out.on hbq (by have := HBW.out; have := HSW.out.b.size; omega))
  refine wp_append_text rfl _ _ rfl B _ _ rfl (HOW.out.later hbq) _ _ rfl rfl ?_ ?_ ?_
  · have := HLN.out; (try simp only [List.length_append, List.length_cons, List.length_nil, printL] at this ⊢); omega
  · have := HBW.out; have := HSW.out.b.size; have := hbq.size; omega
  intro v2 w2 HO3 hg2
  obtain ⟨vp, vn, vk, rfl⟩ := HO3.slice
  have hst := TS.put HP.out (by have := HBW.out; have := HSW.out.b.size; have := hbq.size; omega) HGA.out ((hbq.block _ HAW.out.lt).trans HAW.out) (HOW.out.later hbq) hg2 HO3
  have HSN := Lib.hid hst.2.1
  have cA2 := hst.1.cell (k := 0) (u := .slice pW nW kW) rfl
  have fA2 := frozen_of_row _ A 0 _ _ hst.1
  have lA2 := hst.1.lt
  clear hst HO3 hg2 hbq HP
  clear cA fA lA cF lF lt c0 c1 c2 c3 c4 c5 c6 c7 c8
  go_wp2_with fail
  obtain ⟨V, hV⟩ : ∃ X', X' = w2.setCell ⟨A, 0, none⟩ (.slice vp vn vk) := ⟨_, rfl⟩
  rw [← hV] at HSN
  rw [← hV]
  have HSV := HSN
  clear hV cA2 fA2 lA2 HSN
  refine bodyPost_ret (results_none (by rfl) _ _ _) rfl ⟨rfl, HSV.out.t, HSV.out.k, HSV.out.b⟩
set_option maxHeartbeats 16000000 in
theorem textC_one (op : Int) (v : Val) (rel col n : Int) (s : ByteArray) (y0 : Ex) (h4op : 4 ≤ op) (hh : headOk op v rel col n s 1 = true) (IH : ∀ y ∈ [y0], TextC y) : TextC (.mk op v rel col n s [y0]) := by
  intro w0 w cs B A F t hx hW0 hB0 h4 hG hT hLN
  rw [ExM.iff] at hx
  simp only [List.length_cons, List.length_nil, Nat.zero_add] at hx
  obtain ⟨hv, q, c, rfl, -, hl⟩ := hx
  have HB0 := Lib.hid hB0
  have H4 := Lib.hid h4
  have HL := Lib.hid hl
  have HV := Lib.hid hv.2.1
  have HW0 := Lib.hid hW0
  have HG := Lib.hid hG
  have HLN := Lib.hid hLN
  have HH := Lib.hid hh
  have HBW := Lib.hid (show B ≤ w.heap.size by obtain ⟨_, _, _, h, _⟩ := hT.out; have := h.lt; have := hT.bA; omega)
  have hSW : TS w (w.alloc (.cells (exCells op v rel col n s q 1 c).toArray 26)) B A F w.heap.size (exCells op v rel col n s q 1 c).toArray t :=
    ⟨hT.on (ext_alloc (ext_refl _) _), Blk.new _ _ _, KT.of_below (ext_alloc (ext_refl _) _), (ext_alloc (ext_refl w) _).mono HBW.out⟩
  have HGA := Lib.hid (show w.heap.size ≠ A by obtain ⟨_, _, _, h, _⟩ := hT.out; have := h.lt; omega)
  obtain ⟨W, hW⟩ : ∃ X', X' = w.alloc (.cells (exCells op v rel col n s q 1 c).toArray 26) := ⟨_, rfl⟩
  rw [← hW] at hSW
  have HSW := Lib.hid hSW
  have HWW := Lib.hid hW
  clear hW0 hB0 h4 hl hv hG hT hLN hh hSW hW
  go_enter Tryd.func64, Tryd.ntmps64
  go_upto_region 1 with fail
  rw [← HWW.out]
  clear HWW
  obtain ⟨g, hg⟩ : ∃ g, g = w.heap.size := ⟨_, rfl⟩
  rw [← hg] at HSW HGA ⊢
  clear hg
  have HI := Lib.hid IH
  have HPR := Lib.hid (print_op (v := v) (rel := rel) (col := col) (n := n) (s := s) (l := [y0]) h4op)
  have hop := (op_range HH.out).2
  have i1 := inR_small (show 0 ≤ op by omega) (by omega : op ≤ 100)
  have HII := Lib.hid i1
  rw [HPR.out] at HLN
  clear IH h4op hop i1
  obtain ⟨pW, nW, kW, hAW, hOW⟩ := HSW.out.t.out
  have cA := hAW.cell (k := 0) (u := .slice pW nW kW) rfl
  have fA := frozen_of_row _ A 0 _ _ hAW
  have lA := hAW.lt
  have cF := HSW.out.t.wr.cell (k := 0) (u := wrF A F) rfl
  have lF := HSW.out.t.wr.lt
  obtain ⟨lt, c0, c1, c2, c3, c4, c5, c6, c7, c8⟩ := HSW.out.e.eb
  have HAW := Lib.hid hAW
  have HOW := Lib.hid hOW
  clear hAW hOW
  go_upto_region 3 with fail
  have HP := Lib.hid (HSW.out.on (ext_alloc (ext_refl W) (.cells #[.int .u8 40] 5)) (by have := HBW.out; have := HSW.out.b.size; omega))
  go_wp2_with (at_builtin; refine wp_append_byte2 rfl _ _ rfl B _ _ rfl (HOW.out.later ?k1_6) 40 _ _ rfl ?k2_6 ?k3_6 ?k4_6 ?_)
  case k1_6 => exact ext_alloc (ext_refl _) _
  case k2_6 => simp [go_sem]
  case k3_6 => rw [List.length_map]; have := HLN.out; (try simp only [List.length_append, List.length_cons, List.length_nil, printL] at this ⊢); omega
  case k4_6 => have := HBW.out; have := HSW.out.b.size; simp; omega
  intro v2 w2 HO2 hg2 hb2
  obtain ⟨vp, vn, vk, rfl⟩ := HO2.slice
  have HO3 : OwnB w2 B (.slice vp vn vk) (toJ (t ++ [40])) := by simpa [List.map_append, List.append_assoc] using HO2
  have hst := TS.put HP.out (by have := HBW.out; have := HSW.out.b.size; simp; omega) HGA.out (HAW.out.alloc _) (HOW.out.later (ext_alloc (ext_refl _) _)) hg2 HO3
  have HSN := Lib.hid hst.2.1
  have cA2 := hst.1.cell (k := 0) (u := .slice pW nW kW) rfl
  have fA2 := frozen_of_row _ A 0 _ _ hst.1
  have lA2 := hst.1.lt
  clear hst HO2 HO3 hg2 hb2 HP
  clear cA fA lA cF lF lt c0 c1 c2 c3 c4 c5 c6 c7 c8
  go_upto_region 4 with fail
  obtain ⟨V, hV⟩ : ∃ X', X' = w2.setCell ⟨A, 0, none⟩ (.slice vp vn vk) := ⟨_, rfl⟩
  rw [← hV] at HSN
  rw [← hV]
  have HSV := HSN
  clear hV cA2 fA2 lA2 HSN
  obtain ⟨pV, nV, kV, hAV, hOV⟩ := HSV.out.t.out
  have cA := hAV.cell (k := 0) (u := .slice pV nV kV) rfl
  have fA := frozen_of_row _ A 0 _ _ hAV
  have lA := hAV.lt
  have cF := HSV.out.t.wr.cell (k := 0) (u := wrF A F) rfl
  have lF := HSV.out.t.wr.lt
  obtain ⟨lt, c0, c1, c2, c3, c4, c5, c6, c7, c8⟩ := HSV.out.e.eb
  have HAV := Lib.hid hAV
  have HOV := Lib.hid hOV
  clear hAV hOV
  have HC := Lib.hid (fun (x : After V) => calls_after (dgs_any op HII.out x.W ((HG.out.below HSV.out.b H4.out).on x.below)))
  have r0 := fun (x : After V) => (x.cell A 0 lA).trans cA
  have q0 := fun (x : After V) => (x.cell g 0 lt).trans c0
  have q1 := fun (x : After V) => (x.cell g 1 lt).trans c1
  have q2 := fun (x : After V) => (x.cell g 2 lt).trans c2
  have q3 := fun (x : After V) => (x.cell g 3 lt).trans c3
  have q4 := fun (x : After V) => (x.cell g 4 lt).trans c4
  have q5 := fun (x : After V) => (x.cell g 5 lt).trans c5
  have q6 := fun (x : After V) => (x.cell g 6 lt).trans c6
  have q7 := fun (x : After V) => (x.cell g 7 lt).trans c7
  have q8 := fun (x : After V) => (x.cell g 8 lt).trans c8
  have is := After.some V
  refine wp_region_after_tail 4 (by kernel_rfl) (by kernel_rfl) ?_
  simp only [List.take_succ_cons, List.take_zero, List.drop_succ_cons, List.drop_zero]
  repeat (quiet_step ((go_at_call 66; exact HC.out _)))
  refine wpQuiet_nil ?_
  intro Wq hw
  have hbq : Below V.heap.size V Wq := by obtain ⟨x, rfl⟩ := hw; exact x.below
  clear r0 q0 q1 q2 q3 q4 q5 q6 q7 q8 is hw
  have HP := Lib.hid (HSV.out.on hbq (by have := HBW.out; have := HSV.out.b.size; omega))
  refine wp_append_text rfl _ _ rfl B _ _ rfl (HOV.out.later hbq) _ _ rfl rfl ?_ ?_ ?_
  · have := HLN.out; (try simp only [List.length_append, List.length_cons, List.length_nil, printL] at this ⊢); omega
  · have := HBW.out; have := HSV.out.b.size; have := hbq.size; omega
  intro v2 w2 HO3 hg2
  obtain ⟨vp, vn, vk, rfl⟩ := HO3.slice
  have hst := TS.put HP.out (by have := HBW.out; have := HSV.out.b.size; have := hbq.size; omega) HGA.out ((hbq.block _ HAV.out.lt).trans HAV.out) (HOV.out.later hbq) hg2 HO3
  have HSN := Lib.hid hst.2.1
  have cA2 := hst.1.cell (k := 0) (u := .slice pV nV kV) rfl
  have fA2 := frozen_of_row _ A 0 _ _ hst.1
  have lA2 := hst.1.lt
  clear hst HO3 hg2 hbq HP
  clear cA fA lA cF lF lt c0 c1 c2 c3 c4 c5 c6 c7 c8
  go_upto_region 5 with fail
  obtain ⟨N, hN⟩ : ∃ X', X' = w2.setCell ⟨A, 0, none⟩ (.slice vp vn vk) := ⟨_, rfl⟩
  rw [← hN] at HSN
  rw [← hN]
  have HSN := HSN
  clear hN cA2 fA2 lA2 HSN
  obtain ⟨pN, nN, kN, hAN, hON⟩ := HSN.out.t.out
  have cA := hAN.cell (k := 0) (u := .slice pN nN kN) rfl
  have fA := frozen_of_row _ A 0 _ _ hAN
  have lA := hAN.lt
  have cF := HSN.out.t.wr.cell (k := 0) (u := wrF A F) rfl
  have lF := HSN.out.t.wr.lt
  obtain ⟨lt, c0, c1, c2, c3, c4, c5, c6, c7, c8⟩ := HSN.out.e.eb
  have HAN := Lib.hid hAN
  have HON := Lib.hid hON
  clear hAN hON
  go_wp2_with fail
  clear cA fA lA cF lF lt c0 c1 c2 c3 c4 c5 c6 c7 c8
  refine wp_loop_rounds 2 ?_
  have hl_ := ExL.at_ (j := 0) (x := y0) HL.out rfl
  obtain ⟨g0, off0, cs0, hq0, hg0, hx0, hcell⟩ := hl_
  subst hq0
  have HX0 := Lib.hid hx0
  obtain ⟨op1, v1, rel1, col1, n1, s1, l1⟩ := y0
  rw [ExM.iff] at hx0
  obtain ⟨-, qq0, cc0, rfl, -, -⟩ := hx0
  have hcf := HW0.out.trans (HSN.out.b.mono HB0.out)
  have hg0 := hg0
  have f0 := (hcf.cell (p := ⟨_, _, none⟩) hg0).trans (hcell 0 _ rfl)
  have f1 := (hcf.cell (p := ⟨_, _, none⟩) hg0).trans (hcell 1 _ rfl)
  have f2 := (hcf.cell (p := ⟨_, _, none⟩) hg0).trans (hcell 2 _ rfl)
  have f3 := (hcf.cell (p := ⟨_, _, none⟩) hg0).trans (hcell 3 _ rfl)
  have f4 := (hcf.cell (p := ⟨_, _, none⟩) hg0).trans (hcell 4 _ rfl)
  have f5 := (hcf.cell (p := ⟨_, _, none⟩) hg0).trans (hcell 5 _ rfl)
  have f6 := (hcf.cell (p := ⟨_, _, none⟩) hg0).trans (hcell 6 _ rfl)
  have f7 := (hcf.cell (p := ⟨_, _, none⟩) hg0).trans (hcell 7 _ rfl)
  have f8 := (hcf.cell (p := ⟨_, _, none⟩) hg0).trans (hcell 8 _ rfl)
  have lg0 := Nat.lt_of_lt_of_le hg0 hcf.size
  simp only [Nat.zero_mul, Nat.add_zero] at f0 f1 f2 f3 f4 f5 f6 f7 f8
  clear hcell hcf
  obtain ⟨pN, nN, kN, hAN, hON⟩ := HSN.out.t.out
  have cA := hAN.cell (k := 0) (u := .slice pN nN kN) rfl
  have fA := frozen_of_row _ A 0 _ _ hAN
  have lA := hAN.lt
  have cF := HSN.out.t.wr.cell (k := 0) (u := wrF A F) rfl
  have lF := HSN.out.t.wr.lt
  obtain ⟨lt, c0, c1, c2, c3, c4, c5, c6, c7, c8⟩ := HSN.out.e.eb
  have HAN := Lib.hid hAN
  have HON := Lib.hid hON
  clear hAN hON
  rw [rounds_succ]
  go_upto_region 8 with fail
  clear f0 f1 f2 f3 f4 f5 f6 f7 f8 lg0
  obtain ⟨x, hx⟩ : ∃ x, x = N.heap.size := ⟨_, rfl⟩
  have hXB : Blk (N.alloc (.cells (exCells op1 v1 rel1 col1 n1 s1 qq0 l1.length cc0).toArray 26)) N.heap.size 26 (exCells op1 v1 rel1 col1 n1 s1 qq0 l1.length cc0).toArray := Blk.new _ _ _
  have HSX0 := Lib.hid (HSN.out.on (ext_alloc (ext_refl N) (.cells (exCells op1 v1 rel1 col1 n1 s1 qq0 l1.length cc0).toArray 26)) (by have := HBW.out; have := HSN.out.b.size; omega))
  have HXA := Lib.hid (show x ≠ A by rw [hx]; exact fun e => absurd lA (by rw [← e]; exact Nat.lt_irrefl _))
  obtain ⟨X0, hX0⟩ : ∃ X', X' = N.alloc (.cells (exCells op1 v1 rel1 col1 n1 s1 qq0 l1.length cc0).toArray 26) := ⟨_, rfl⟩
  rw [← hX0] at HSX0 hXB
  rw [← hx] at hXB
  rw [← hX0, ← hx]
  have HXB := Lib.hid hXB
  clear hX0 hx hXB
  clear cA fA lA cF lF lt c0 c1 c2 c3 c4 c5 c6 c7 c8
  obtain ⟨pX0, nX0, kX0, hAX0, hOX0⟩ := HSX0.out.t.out
  have cA := hAX0.cell (k := 0) (u := .slice pX0 nX0 kX0) rfl
  have fA := frozen_of_row _ A 0 _ _ hAX0
  have lA := hAX0.lt
  have cF := HSX0.out.t.wr.cell (k := 0) (u := wrF A F) rfl
  have lF := HSX0.out.t.wr.lt
  obtain ⟨lt, c0, c1, c2, c3, c4, c5, c6, c7, c8⟩ := HSX0.out.e.eb
  have HAX0 := Lib.hid hAX0
  have HOX0 := Lib.hid hOX0
  clear hAX0 hOX0
  have HP := Lib.hid (HSX0.out.on (ext_alloc (ext_refl X0) (.cells #[.int .u8 32] 5)) (by have := HBW.out; have := HSX0.out.b.size; omega))
  have HXP := Lib.hid ((HXB.out).alloc (.cells #[.int .u8 32] 5))
  go_wp2_with (at_builtin; refine wp_append_byte2 rfl _ _ rfl B _ _ rfl (HOX0.out.later ?k1_1) 32 _ _ rfl ?k2_1 ?k3_1 ?k4_1 ?_)
  case k1_1 => exact ext_alloc (ext_refl _) _
  case k2_1 => simp [go_sem]
  case k3_1 => rw [List.length_map]; have := HLN.out; (try simp only [List.length_append, List.length_cons, List.length_nil, printL] at this ⊢); omega
  case k4_1 => have := HBW.out; have := HSX0.out.b.size; simp; omega
  intro v2 w2 HO2 hg2 hb2
  obtain ⟨vp, vn, vk, rfl⟩ := HO2.slice
  have HO3 : OwnB w2 B (.slice vp vn vk) (toJ (t ++ [40] ++ Lib.itoa op ++ [32])) := by simpa [List.map_append, List.append_assoc] using HO2
  have hst := TS.put HP.out (by have := HBW.out; have := HSX0.out.b.size; simp; omega) HGA.out (HAX0.out.alloc _) (HOX0.out.later (ext_alloc (ext_refl _) _)) hg2 HO3
  have HXV := Lib.hid (HXP.out.kt hst.2.2 HXA.out (by decide))
  have HSN := Lib.hid hst.2.1
  have cA2 := hst.1.cell (k := 0) (u := .slice pX0 nX0 kX0) rfl
  have fA2 := frozen_of_row _ A 0 _ _ hst.1
  have lA2 := hst.1.lt
  clear hst HO2 HO3 hg2 hb2 HP HXP
  clear cA fA lA cF lF lt c0 c1 c2 c3 c4 c5 c6 c7 c8
  go_upto_region 9 with fail
  obtain ⟨B0, hB0⟩ : ∃ X', X' = w2.setCell ⟨A, 0, none⟩ (.slice vp vn vk) := ⟨_, rfl⟩
  rw [← hB0] at HSN HXV
  rw [← hB0]
  have HSB0 := HSN
  clear hB0 cA2 fA2 lA2 HSN
  obtain ⟨pB0, nB0, kB0, hAB0, hOB0⟩ := HSB0.out.t.out
  have cA := hAB0.cell (k := 0) (u := .slice pB0 nB0 kB0) rfl
  have fA := frozen_of_row _ A 0 _ _ hAB0
  have lA := hAB0.lt
  have cF := HSB0.out.t.wr.cell (k := 0) (u := wrF A F) rfl
  have lF := HSB0.out.t.wr.lt
  obtain ⟨lt, c0, c1, c2, c3, c4, c5, c6, c7, c8⟩ := HSB0.out.e.eb
  have HAB0 := Lib.hid hAB0
  have HOB0 := Lib.hid hOB0
  clear hAB0 hOB0
  have hcf := HW0.out.trans (HSB0.out.b.mono HB0.out)
  have HCF := Lib.hid hcf
  obtain ⟨ltx, x0, x1, x2, x3, x4, x5, x6, x7, x8⟩ := HXV.out.eb
  clear hcf
  go_wp2_with fail
  refine (HI.out (Ex.mk op1 v1 rel1 col1 n1 s1 l1) (by simp) w0 _ _ B A F _ HX0.out HCF.out HB0.out H4.out (HG.out.below (HSB0.out.b) H4.out) HSB0.out.t ?_).mono ?_
  · have := HLN.out; (try simp only [List.length_append, List.length_cons, List.length_nil, printL] at this ⊢); omega
  rintro e Z ⟨rfl, hT, hK, hb⟩
  have HSZ := Lib.hid (TS.mk hT (HSB0.out.e.kt hK HGA.out (by decide)) (HSB0.out.k.trans hK) (HSB0.out.b.trans hb))
  clear hT hK hb ltx x0 x1 x2 x3 x4 x5 x6 x7 x8 HXV HXB HXA HCF
  clear cA fA lA cF lF lt c0 c1 c2 c3 c4 c5 c6 c7 c8
  obtain ⟨pZ, nZ, kZ, hAZ, hOZ⟩ := HSZ.out.t.out
  have cA := hAZ.cell (k := 0) (u := .slice pZ nZ kZ) rfl
  have fA := frozen_of_row _ A 0 _ _ hAZ
  have lA := hAZ.lt
  have cF := HSZ.out.t.wr.cell (k := 0) (u := wrF A F) rfl
  have lF := HSZ.out.t.wr.lt
  obtain ⟨lt, c0, c1, c2, c3, c4, c5, c6, c7, c8⟩ := HSZ.out.e.eb
  have HAZ := Lib.hid hAZ
  have HOZ := Lib.hid hOZ
  clear hAZ hOZ
  go_wp2_with fail
  rw [rounds_succ]
  go_upto_region 11 with fail
  have HP := Lib.hid (HSZ.out.on (ext_alloc (ext_refl Z) (.cells #[.int .u8 41] 5)) (by have := HBW.out; have := HSZ.out.b.size; omega))
  go_wp2_with (at_builtin; refine wp_append_byte2 rfl _ _ rfl B _ _ rfl (HOZ.out.later ?k1_2) 41 _ _ rfl ?k2_2 ?k3_2 ?k4_2 ?_)
  case k1_2 => exact ext_alloc (ext_refl _) _
  case k2_2 => simp [go_sem]
  case k3_2 => rw [List.length_map]; have := HLN.out; (try simp only [List.length_append, List.length_cons, List.length_nil, printL] at this ⊢); omega
  case k4_2 => have := HBW.out; have := HSZ.out.b.size; simp; omega
  intro v2 w2 HO2 hg2 hb2
  obtain ⟨vp, vn, vk, rfl⟩ := HO2.slice
  have HO3 : OwnB w2 B (.slice vp vn vk) (toJ (t ++ [40] ++ Lib.itoa op ++ [32] ++ Ex.print (Ex.mk op1 v1 rel1 col1 n1 s1 l1) ++ [41])) := by simpa [List.map_append, List.append_assoc] using HO2
  have hst := TS.put HP.out (by have := HBW.out; have := HSZ.out.b.size; simp; omega) HGA.out (HAZ.out.alloc _) (HOZ.out.later (ext_alloc (ext_refl _) _)) hg2 HO3
  have HSN := Lib.hid hst.2.1
  have cA2 := hst.1.cell (k := 0) (u := .slice pZ nZ kZ) rfl
  have fA2 := frozen_of_row _ A 0 _ _ hst.1
  have lA2 := hst.1.lt
  clear hst HO2 HO3 hg2 hb2 HP
  clear cA fA lA cF lF lt c0 c1 c2 c3 c4 c5 c6 c7 c8
  go_wp2_with fail
  obtain ⟨Q, hQ⟩ : ∃ X', X' = w2.setCell ⟨A, 0, none⟩ (.slice vp vn vk) := ⟨_, rfl⟩
  rw [← hQ] at HSN
  rw [← hQ]
  have HSQ := HSN
  clear hQ cA2 fA2 lA2 HSN
  refine bodyPost_end (results_none (by rfl) _ _ _) rfl ⟨rfl, ?_, HSQ.out.k, HSQ.out.b⟩
  rw [HPR.out]
  have := HSQ.out.t
  simpa [printL, List.append_assoc] using this
set_option maxHeartbeats 16000000 in
theorem textC_two (op : Int) (v : Val) (rel col n : Int) (s : ByteArray) (y0 : Ex) (y1 : Ex) (h4op : 4 ≤ op) (hh : headOk op v rel col n s 2 = true) (IH : ∀ y ∈ [y0, y1], TextC y) : TextC (.mk op v rel col n s [y0, y1]) := by
  intro w0 w cs B A F t hx hW0 hB0 h4 hG hT hLN
  rw [ExM.iff] at hx
  simp only [List.length_cons, List.length_nil, Nat.zero_add] at hx
  obtain ⟨hv, q, c, rfl, -, hl⟩ := hx
  have HB0 := Lib.hid hB0
  have H4 := Lib.hid h4
  have HL := Lib.hid hl
  have HV := Lib.hid hv.2.1
  have HW0 := Lib.hid hW0
  have HG := Lib.hid hG
  have HLN := Lib.hid hLN
  have HH := Lib.hid hh
  have HBW := Lib.hid (show B ≤ w.heap.size by obtain ⟨_, _, _, h, _⟩ := hT.out; have := h.lt; have := hT.bA; omega)
  have hSW : TS w (w.alloc (.cells (exCells op v rel col n s q 2 c).toArray 26)) B A F w.heap.size (exCells op v rel col n s q 2 c).toArray t :=
    ⟨hT.on (ext_alloc (ext_refl _) _), Blk.new _ _ _, KT.of_below (ext_alloc (ext_refl _) _), (ext_alloc (ext_refl w) _).mono HBW.out⟩
  have HGA := Lib.hid (show w.heap.size ≠ A by obtain ⟨_, _, _, h, _⟩ := hT.out; have := h.lt; omega)
  obtain ⟨W, hW⟩ : ∃ X', X' = w.alloc (.cells (exCells op v rel col n s q 2 c).toArray 26) := ⟨_, rfl⟩
  rw [← hW] at hSW
  have HSW := Lib.hid hSW
  have HWW := Lib.hid hW
  clear hW0 hB0 h4 hl hv hG hT hLN hh hSW hW
  go_enter Tryd.func64, Tryd.ntmps64
  go_upto_region 1 with fail
  rw [← HWW.out]
  clear HWW
  obtain ⟨g, hg⟩ : ∃ g, g = w.heap.size := ⟨_, rfl⟩
  rw [← hg] at HSW HGA ⊢
  clear hg
  have HI := Lib.hid IH
  have HPR := Lib.hid (print_op (v := v) (rel := rel) (col := col) (n := n) (s := s) (l := [y0, y1]) h4op)
  have hop := (op_range HH.out).2
  have i1 := inR_small (show 0 ≤ op by omega) (by omega : op ≤ 100)
  have HII := Lib.hid i1
  rw [HPR.out] at HLN
  clear IH h4op hop i1
  obtain ⟨pW, nW, kW, hAW, hOW⟩ := HSW.out.t.out
  have cA := hAW.cell (k := 0) (u := .slice pW nW kW) rfl
  have fA := frozen_of_row _ A 0 _ _ hAW
  have lA := hAW.lt
  have cF := HSW.out.t.wr.cell (k := 0) (u := wrF A F) rfl
  have lF := HSW.out.t.wr.lt
  obtain ⟨lt, c0, c1, c2, c3, c4, c5, c6, c7, c8⟩ := HSW.out.e.eb
  have HAW := Lib.hid hAW
  have HOW := Lib.hid hOW
  clear hAW hOW
  go_upto_region 3 with fail
  have HP := Lib.hid (HSW.out.on (ext_alloc (ext_refl W) (.cells #[.int .u8 40] 5)) (by have := HBW.out; have := HSW.out.b.size; omega))
  go_wp2_with (at_builtin; refine wp_append_byte2 rfl _ _ rfl B _ _ rfl (HOW.out.later ?k1_7) 40 _ _ rfl ?k2_7 ?k3_7 ?k4_7 ?_)
  case k1_7 => exact ext_alloc (ext_refl _) _
  case k2_7 => simp [go_sem]
  case k3_7 => rw [List.length_map]; have := HLN.out; (try simp only [List.length_append, List.length_cons, List.length_nil, printL] at this ⊢); omega
  case k4_7 => have := HBW.out; have := HSW.out.b.size; simp; omega
  intro v2 w2 HO2 hg2 hb2
  obtain ⟨vp, vn, vk, rfl⟩ := HO2.slice
  have HO3 : OwnB w2 B (.slice vp vn vk) (toJ (t ++ [40])) := by simpa [List.map_append, List.append_assoc] using HO2
  have hst := TS.put HP.out (by have := HBW.out; have := HSW.out.b.size; simp; omega) HGA.out (HAW.out.alloc _) (HOW.out.later (ext_alloc (ext_refl _) _)) hg2 HO3
  have HSN := Lib.hid hst.2.1
  have cA2 := hst.1.cell (k := 0) (u := .slice pW nW kW) rfl
  have fA2 := frozen_of_row _ A 0 _ _ hst.1
  have lA2 := hst.1.lt
  clear hst HO2 HO3 hg2 hb2 HP
  clear cA fA lA cF lF lt c0 c1 c2 c3 c4 c5 c6 c7 c8
  go_upto_region 4 with fail
  obtain ⟨V, hV⟩ : ∃ X', X' = w2.setCell ⟨A, 0, none⟩ (.slice vp vn vk) := ⟨_, rfl⟩
  rw [← hV] at HSN
  rw [← hV]
  have HSV := HSN
  clear hV cA2 fA2 lA2 HSN
  obtain ⟨pV, nV, kV, hAV, hOV⟩ := HSV.out.t.out
  have cA := hAV.cell (k := 0) (u := .slice pV nV kV) rfl
  have fA := frozen_of_row _ A 0 _ _ hAV
  have lA := hAV.lt
  have cF := HSV.out.t.wr.cell (k := 0) (u := wrF A F) rfl
  have lF := HSV.out.t.wr.lt
  obtain ⟨lt, c0, c1, c2, c3, c4, c5, c6, c7, c8⟩ := HSV.out.e.eb
  have HAV := Lib.hid hAV
  have HOV := Lib.hid hOV
  clear hAV hOV
  have HC := Lib.hid (fun (x : After V) => calls_after (dgs_any op HII.out x.W ((HG.out.below HSV.out.b H4.out).on x.below)))
  have r0 := fun (x : After V) => (x.cell A 0 lA).trans cA
  have q0 := fun (x : After V) => (x.cell g 0 lt).trans c0
  have q1 := fun (x : After V) => (x.cell g 1 lt).trans c1
  have q2 := fun (x : After V) => (x.cell g 2 lt).trans c2
  have q3 := fun (x : After V) => (x.cell g 3 lt).trans c3
  have q4 := fun (x : After V) => (x.cell g 4 lt).trans c4
  have q5 := fun (x : After V) => (x.cell g 5 lt).trans c5
  have q6 := fun (x : After V) => (x.cell g 6 lt).trans c6
  have q7 := fun (x : After V) => (x.cell g 7 lt).trans c7
  have q8 := fun (x : After V) => (x.cell g 8 lt).trans c8
  have is := After.some V
  refine wp_region_after_tail 4 (by kernel_rfl) (by kernel_rfl) ?_
  simp only [List.take_succ_cons, List.take_zero, List.drop_succ_cons, List.drop_zero]
  repeat (quiet_step ((go_at_call 66; exact HC.out _)))
  refine wpQuiet_nil ?_
  intro Wq hw
  have hbq : Below V.heap.size V Wq := by obtain ⟨x, rfl⟩ := hw; exact x.below
  clear r0 q0 q1 q2 q3 q4 q5 q6 q7 q8 is hw
  have HP := Lib.hid (HSV.out.on hbq (by have := HBW.out; have := HSV.out.b.size; omega))
  refine wp_append_text rfl _ _ rfl B _ _ rfl (HOV.out.later hbq) _ _ rfl rfl ?_ ?_ ?_
  · have := HLN.out; (try simp only [List.length_append, List.length_cons, List.length_nil, printL] at this ⊢); omega
  · have := HBW.out; have := HSV.out.b.size; have := hbq.size; omega
  intro v2 w2 HO3 hg2
  obtain ⟨vp, vn, vk, rfl⟩ := HO3.slice
  have hst := TS.put HP.out (by have := HBW.out; have := HSV.out.b.size; have := hbq.size; omega) HGA.out ((hbq.block _ HAV.out.lt).trans HAV.out) (HOV.out.later hbq) hg2 HO3
  have HSN := Lib.hid hst.2.1
  have cA2 := hst.1.cell (k := 0) (u := .slice pV nV kV) rfl
  have fA2 := frozen_of_row _ A 0 _ _ hst.1
  have lA2 := hst.1.lt
  clear hst HO3 hg2 hbq HP
  clear cA fA lA cF lF lt c0 c1 c2 c3 c4 c5 c6 c7 c8
  go_upto_region 5 with fail
  obtain ⟨N, hN⟩ : ∃ X', X' = w2.setCell ⟨A, 0, none⟩ (.slice vp vn vk) := ⟨_, rfl⟩
  rw [← hN] at HSN
  rw [← hN]
  have HSN := HSN
  clear hN cA2 fA2 lA2 HSN
  obtain ⟨pN, nN, kN, hAN, hON⟩ := HSN.out.t.out
  have cA := hAN.cell (k := 0) (u := .slice pN nN kN) rfl
  have fA := frozen_of_row _ A 0 _ _ hAN
  have lA := hAN.lt
  have cF := HSN.out.t.wr.cell (k := 0) (u := wrF A F) rfl
  have lF := HSN.out.t.wr.lt
  obtain ⟨lt, c0, c1, c2, c3, c4, c5, c6, c7, c8⟩ := HSN.out.e.eb
  have HAN := Lib.hid hAN
  have HON := Lib.hid hON
  clear hAN hON
  go_wp2_with fail
  clear cA fA lA cF lF lt c0 c1 c2 c3 c4 c5 c6 c7 c8
  refine wp_loop_rounds 3 ?_
  have hl_ := ExL.at_ (j := 0) (x := y0) HL.out rfl
  obtain ⟨g0, off0, cs0, hq0, hg0, hx0, hcell⟩ := hl_
  subst hq0
  have HX0 := Lib.hid hx0
  obtain ⟨op1, v1, rel1, col1, n1, s1, l1⟩ := y0
  rw [ExM.iff] at hx0
  obtain ⟨-, qq0, cc0, rfl, -, -⟩ := hx0
  have hcf := HW0.out.trans (HSN.out.b.mono HB0.out)
  have hg0 := hg0
  have f0 := (hcf.cell (p := ⟨_, _, none⟩) hg0).trans (hcell 0 _ rfl)
  have f1 := (hcf.cell (p := ⟨_, _, none⟩) hg0).trans (hcell 1 _ rfl)
  have f2 := (hcf.cell (p := ⟨_, _, none⟩) hg0).trans (hcell 2 _ rfl)
  have f3 := (hcf.cell (p := ⟨_, _, none⟩) hg0).trans (hcell 3 _ rfl)
  have f4 := (hcf.cell (p := ⟨_, _, none⟩) hg0).trans (hcell 4 _ rfl)
  have f5 := (hcf.cell (p := ⟨_, _, none⟩) hg0).trans (hcell 5 _ rfl)
  have f6 := (hcf.cell (p := ⟨_, _, none⟩) hg0).trans (hcell 6 _ rfl)
  have f7 := (hcf.cell (p := ⟨_, _, none⟩) hg0).trans (hcell 7 _ rfl)
  have f8 := (hcf.cell (p := ⟨_, _, none⟩) hg0).trans (hcell 8 _ rfl)
  have lg0 := Nat.lt_of_lt_of_le hg0 hcf.size
  simp only [Nat.zero_mul, Nat.add_zero] at f0 f1 f2 f3 f4 f5 f6 f7 f8
  clear hcell hcf
  obtain ⟨pN, nN, kN, hAN, hON⟩ := HSN.out.t.out
  have cA := hAN.cell (k := 0) (u := .slice pN nN kN) rfl
  have fA := frozen_of_row _ A 0 _ _ hAN
  have lA := hAN.lt
  have cF := HSN.out.t.wr.cell (k := 0) (u := wrF A F) rfl
  have lF := HSN.out.t.wr.lt
  obtain ⟨lt, c0, c1, c2, c3, c4, c5, c6, c7, c8⟩ := HSN.out.e.eb
  have HAN := Lib.hid hAN
  have HON := Lib.hid hON
  clear hAN hON
  rw [rounds_succ]
  go_upto_region 8 with fail
  clear f0 f1 f2 f3 f4 f5 f6 f7 f8 lg0
  obtain ⟨x, hx⟩ : ∃ x, x = N.heap.size := ⟨_, rfl⟩
  have hXB : Blk (N.alloc (.cells (exCells op1 v1 rel1 col1 n1 s1 qq0 l1.length cc0).toArray 26)) N.heap.size 26 (exCells op1 v1 rel1 col1 n1 s1 qq0 l1.length cc0).toArray := Blk.new _ _ _
  have HSX0 := Lib.hid (HSN.out.on (ext_alloc (ext_refl N) (.cells (exCells op1 v1 rel1 col1 n1 s1 qq0 l1.length cc0).toArray 26)) (by have := HBW.out; have := HSN.out.b.size; omega))
  have HXA := Lib.hid (show x ≠ A by rw [hx]; exact fun e => absurd lA (by rw [← e]; exact Nat.lt_irrefl _))
  obtain ⟨X0, hX0⟩ : ∃ X', X' = N.alloc (.cells (exCells op1 v1 rel1 col1 n1 s1 qq0 l1.length cc0).toArray 26) := ⟨_, rfl⟩
  rw [← hX0] at HSX0 hXB
  rw [← hx] at hXB
  rw [← hX0, ← hx]
  have HXB := Lib.hid hXB
  clear hX0 hx hXB
  clear cA fA lA cF lF lt c0 c1 c2 c3 c4 c5 c6 c7 c8
  obtain ⟨pX0, nX0, kX0, hAX0, hOX0⟩ := HSX0.out.t.out
  have cA := hAX0.cell (k := 0) (u := .slice pX0 nX0 kX0) rfl
  have fA := frozen_of_row _ A 0 _ _ hAX0
  have lA := hAX0.lt
  have cF := HSX0.out.t.wr.cell (k := 0) (u := wrF A F) rfl
  have lF := HSX0.out.t.wr.lt
  obtain ⟨lt, c0, c1, c2, c3, c4, c5, c6, c7, c8⟩ := HSX0.out.e.eb
  have HAX0 := Lib.hid hAX0
  have HOX0 := Lib.hid hOX0
  clear hAX0 hOX0
  have HP := Lib.hid (HSX0.out.on (ext_alloc (ext_refl X0) (.cells #[.int .u8 32] 5)) (by have := HBW.out; have := HSX0.out.b.size; omega))
  have HXP := Lib.hid ((HXB.out).alloc (.cells #[.int .u8 32] 5))
  go_wp2_with (at_builtin; refine wp_append_byte2 rfl _ _ rfl B _ _ rfl (HOX0.out.later ?k1_3) 32 _ _ rfl ?k2_3 ?k3_3 ?k4_3 ?_)
  case k1_3 => exact ext_alloc (ext_refl _) _
  case k2_3 => simp [go_sem]
  case k3_3 => rw [List.length_map]; have := HLN.out; (try simp only [List.length_append, List.length_cons, List.length_nil, printL] at this ⊢); omega
  case k4_3 => have := HBW.out; have := HSX0.out.b.size; simp; omega
  intro v2 w2 HO2 hg2 hb2
  obtain ⟨vp, vn, vk, rfl⟩ := HO2.slice
  have HO3 : OwnB w2 B (.slice vp vn vk) (toJ (t ++ [40] ++ Lib.itoa op ++ [32])) := by simpa [List.map_append, List.append_assoc] using HO2
  have hst := TS.put HP.out (by have := HBW.out; have := HSX0.out.b.size; simp; omega) HGA.out (HAX0.out.alloc _) (HOX0.out.later (ext_alloc (ext_refl _) _)) hg2 HO3
  have HXV := Lib.hid (HXP.out.kt hst.2.2 HXA.out (by decide))
  have HSN := Lib.hid hst.2.1
  have cA2 := hst.1.cell (k := 0) (u := .slice pX0 nX0 kX0) rfl
  have fA2 := frozen_of_row _ A 0 _ _ hst.1
  have lA2 := hst.1.lt
  clear hst HO2 HO3 hg2 hb2 HP HXP
  clear cA fA lA cF lF lt c0 c1 c2 c3 c4 c5 c6 c7 c8
  go_upto_region 9 with fail
  obtain ⟨B0, hB0⟩ : ∃ X', X' = w2.setCell ⟨A, 0, none⟩ (.slice vp vn vk) := ⟨_, rfl⟩
  rw [← hB0] at HSN HXV
  rw [← hB0]
  have HSB0 := HSN
  clear hB0 cA2 fA2 lA2 HSN
  obtain ⟨pB0, nB0, kB0, hAB0, hOB0⟩ := HSB0.out.t.out
  have cA := hAB0.cell (k := 0) (u := .slice pB0 nB0 kB0) rfl
  have fA := frozen_of_row _ A 0 _ _ hAB0
  have lA := hAB0.lt
  have cF := HSB0.out.t.wr.cell (k := 0) (u := wrF A F) rfl
  have lF := HSB0.out.t.wr.lt
  obtain ⟨lt, c0, c1, c2, c3, c4, c5, c6, c7, c8⟩ := HSB0.out.e.eb
  have HAB0 := Lib.hid hAB0
  have HOB0 := Lib.hid hOB0
  clear hAB0 hOB0
  have hcf := HW0.out.trans (HSB0.out.b.mono HB0.out)
  have HCF := Lib.hid hcf
  obtain ⟨ltx, x0, x1, x2, x3, x4, x5, x6, x7, x8⟩ := HXV.out.eb
  clear hcf
  go_wp2_with fail
  refine (HI.out (Ex.mk op1 v1 rel1 col1 n1 s1 l1) (by simp) w0 _ _ B A F _ HX0.out HCF.out HB0.out H4.out (HG.out.below (HSB0.out.b) H4.out) HSB0.out.t ?_).mono ?_
  · have := HLN.out; (try simp only [List.length_append, List.length_cons, List.length_nil, printL] at this ⊢); omega
  rintro e Z ⟨rfl, hT, hK, hb⟩
  have HSZ := Lib.hid (TS.mk hT (HSB0.out.e.kt hK HGA.out (by decide)) (HSB0.out.k.trans hK) (HSB0.out.b.trans hb))
  clear hT hK hb ltx x0 x1 x2 x3 x4 x5 x6 x7 x8 HXV HXB HXA HCF
  clear cA fA lA cF lF lt c0 c1 c2 c3 c4 c5 c6 c7 c8
  obtain ⟨pZ, nZ, kZ, hAZ, hOZ⟩ := HSZ.out.t.out
  have cA := hAZ.cell (k := 0) (u := .slice pZ nZ kZ) rfl
  have fA := frozen_of_row _ A 0 _ _ hAZ
  have lA := hAZ.lt
  have cF := HSZ.out.t.wr.cell (k := 0) (u := wrF A F) rfl
  have lF := HSZ.out.t.wr.lt
  obtain ⟨lt, c0, c1, c2, c3, c4, c5, c6, c7, c8⟩ := HSZ.out.e.eb
  have HAZ := Lib.hid hAZ
  have HOZ := Lib.hid hOZ
  clear hAZ hOZ
  go_wp2_with fail
  clear cA fA lA cF lF lt c0 c1 c2 c3 c4 c5 c6 c7 c8
  have hl_ := ExL.at_ (j := 1) (x := y1) HL.out rfl
  obtain ⟨g1, off1, cs1, hq1, hg1, hx1, hcell⟩ := hl_
  obtain ⟨rfl, rfl⟩ : g1 = g0 ∧ off1 = off0 := by cases hq1; exact ⟨rfl, rfl⟩
  clear hq1
  have HX1 := Lib.hid hx1
  obtain ⟨op2, v2, rel2, col2, n2, s2, l2⟩ := y1
  rw [ExM.iff] at hx1
  obtain ⟨-, qq1, cc1, rfl, -, -⟩ := hx1
  have hcf := HW0.out.trans (HSZ.out.b.mono HB0.out)
  have hg1 := hg1
  have f0 := (hcf.cell (p := ⟨_, _, none⟩) hg1).trans (hcell 0 _ rfl)
  have f1 := (hcf.cell (p := ⟨_, _, none⟩) hg1).trans (hcell 1 _ rfl)
  have f2 := (hcf.cell (p := ⟨_, _, none⟩) hg1).trans (hcell 2 _ rfl)
  have f3 := (hcf.cell (p := ⟨_, _, none⟩) hg1).trans (hcell 3 _ rfl)
  have f4 := (hcf.cell (p := ⟨_, _, none⟩) hg1).trans (hcell 4 _ rfl)
  have f5 := (hcf.cell (p := ⟨_, _, none⟩) hg1).trans (hcell 5 _ rfl)
  have f6 := (hcf.cell (p := ⟨_, _, none⟩) hg1).trans (hcell 6 _ rfl)
  have f7 := (hcf.cell (p := ⟨_, _, none⟩) hg1).trans (hcell 7 _ rfl)
  have f8 := (hcf.cell (p := ⟨_, _, none⟩) hg1).trans (hcell 8 _ rfl)
  have lg1 := Nat.lt_of_lt_of_le hg1 hcf.size
  clear hcell hcf
  obtain ⟨pZ, nZ, kZ, hAZ, hOZ⟩ := HSZ.out.t.out
  have cA := hAZ.cell (k := 0) (u := .slice pZ nZ kZ) rfl
  have fA := frozen_of_row _ A 0 _ _ hAZ
  have lA := hAZ.lt
  have cF := HSZ.out.t.wr.cell (k := 0) (u := wrF A F) rfl
  have lF := HSZ.out.t.wr.lt
  obtain ⟨lt, c0, c1, c2, c3, c4, c5, c6, c7, c8⟩ := HSZ.out.e.eb
  have HAZ := Lib.hid hAZ
  have HOZ := Lib.hid hOZ
  clear hAZ hOZ
  rw [rounds_succ]
  go_upto_region 8 with fail
  clear f0 f1 f2 f3 f4 f5 f6 f7 f8 lg1
  obtain ⟨x, hx⟩ : ∃ x, x = Z.heap.size := ⟨_, rfl⟩
  have hXB : Blk (Z.alloc (.cells (exCells op2 v2 rel2 col2 n2 s2 qq1 l2.length cc1).toArray 26)) Z.heap.size 26 (exCells op2 v2 rel2 col2 n2 s2 qq1 l2.length cc1).toArray := Blk.new _ _ _
  have HSX1 := Lib.hid (HSZ.out.on (ext_alloc (ext_refl Z) (.cells (exCells op2 v2 rel2 col2 n2 s2 qq1 l2.length cc1).toArray 26)) (by have := HBW.out; have := HSZ.out.b.size; omega))
  have HXA := Lib.hid (show x ≠ A by rw [hx]; exact fun e => absurd lA (by rw [← e]; exact Nat.lt_irrefl _))
  obtain ⟨X1, hX1⟩ : ∃ X', X' = Z.alloc (.cells (exCells op2 v2 rel2 col2 n2 s2 qq1 l2.length cc1).toArray 26) := ⟨_, rfl⟩
  rw [← hX1] at HSX1 hXB
  rw [← hx] at hXB
  rw [← hX1, ← hx]
  have HXB := Lib.hid hXB
  clear hX1 hx hXB
  clear cA fA lA cF lF lt c0 c1 c2 c3 c4 c5 c6 c7 c8
  obtain ⟨pX1, nX1, kX1, hAX1, hOX1⟩ := HSX1.out.t.out
  have cA := hAX1.cell (k := 0) (u := .slice pX1 nX1 kX1) rfl
  have fA := frozen_of_row _ A 0 _ _ hAX1
  have lA := hAX1.lt
  have cF := HSX1.out.t.wr.cell (k := 0) (u := wrF A F) rfl
  have lF := HSX1.out.t.wr.lt
  obtain ⟨lt, c0, c1, c2, c3, c4, c5, c6, c7, c8⟩ := HSX1.out.e.eb
  have HAX1 := Lib.hid hAX1
  have HOX1 := Lib.hid hOX1
  clear hAX1 hOX1
  have HP := Lib.hid (HSX1.out.on (ext_alloc (ext_refl X1) (.cells #[.int .u8 32] 5)) (by have := HBW.out; have := HSX1.out.b.size; omega))
  have HXP := Lib.hid ((HXB.out).alloc (.cells #[.int .u8 32] 5))
  go_wp2_with (at_builtin; refine wp_append_byte2 rfl _ _ rfl B _ _ rfl (HOX1.out.later ?k1_4) 32 _ _ rfl ?k2_4 ?k3_4 ?k4_4 ?_)
  case k1_4 => exact ext_alloc (ext_refl _) _
  case k2_4 => simp [go_sem]
  case k3_4 => rw [List.length_map]; have := HLN.out; (try simp only [List.length_append, List.length_cons, List.length_nil, printL] at this ⊢); omega
  case k4_4 => have := HBW.out; have := HSX1.out.b.size; simp; omega
  intro v2 w2 HO2 hg2 hb2
  obtain ⟨vp, vn, vk, rfl⟩ := HO2.slice
  have HO3 : OwnB w2 B (.slice vp vn vk) (toJ (t ++ [40] ++ Lib.itoa op ++ [32] ++ Ex.print (Ex.mk op1 v1 rel1 col1 n1 s1 l1) ++ [32])) := by simpa [List.map_append, List.append_assoc] using HO2
  have hst := TS.put HP.out (by have := HBW.out; have := HSX1.out.b.size; simp; omega) HGA.out (HAX1.out.alloc _) (HOX1.out.later (ext_alloc (ext_refl _) _)) hg2 HO3
  have HXV := Lib.hid (HXP.out.kt hst.2.2 HXA.out (by decide))
  have HSN := Lib.hid hst.2.1
  have cA2 := hst.1.cell (k := 0) (u := .slice pX1 nX1 kX1) rfl
  have fA2 := frozen_of_row _ A 0 _ _ hst.1
  have lA2 := hst.1.lt
  clear hst HO2 HO3 hg2 hb2 HP HXP
  clear cA fA lA cF lF lt c0 c1 c2 c3 c4 c5 c6 c7 c8
  go_upto_region 9 with fail
  obtain ⟨B1, hB1⟩ : ∃ X', X' = w2.setCell ⟨A, 0, none⟩ (.slice vp vn vk) := ⟨_, rfl⟩
  rw [← hB1] at HSN HXV
  rw [← hB1]
  have HSB1 := HSN
  clear hB1 cA2 fA2 lA2 HSN
  obtain ⟨pB1, nB1, kB1, hAB1, hOB1⟩ := HSB1.out.t.out
  have cA := hAB1.cell (k := 0) (u := .slice pB1 nB1 kB1) rfl
  have fA := frozen_of_row _ A 0 _ _ hAB1
  have lA := hAB1.lt
  have cF := HSB1.out.t.wr.cell (k := 0) (u := wrF A F) rfl
  have lF := HSB1.out.t.wr.lt
  obtain ⟨lt, c0, c1, c2, c3, c4, c5, c6, c7, c8⟩ := HSB1.out.e.eb
  have HAB1 := Lib.hid hAB1
  have HOB1 := Lib.hid hOB1
  clear hAB1 hOB1
  have hcf := HW0.out.trans (HSB1.out.b.mono HB0.out)
  have HCF := Lib.hid hcf
  obtain ⟨ltx, x0, x1, x2, x3, x4, x5, x6, x7, x8⟩ := HXV.out.eb
  clear hcf
  go_wp2_with fail
  refine (HI.out (Ex.mk op2 v2 rel2 col2 n2 s2 l2) (by simp) w0 _ _ B A F _ HX1.out HCF.out HB0.out H4.out (HG.out.below (HSB1.out.b) H4.out) HSB1.out.t ?_).mono ?_
  · have := HLN.out; (try simp only [List.length_append, List.length_cons, List.length_nil, printL] at this ⊢); omega
  rintro e O ⟨rfl, hT, hK, hb⟩
  have HSO := Lib.hid (TS.mk hT (HSB1.out.e.kt hK HGA.out (by decide)) (HSB1.out.k.trans hK) (HSB1.out.b.trans hb))
  clear hT hK hb ltx x0 x1 x2 x3 x4 x5 x6 x7 x8 HXV HXB HXA HCF
  clear cA fA lA cF lF lt c0 c1 c2 c3 c4 c5 c6 c7 c8
  obtain ⟨pO, nO, kO, hAO, hOO⟩ := HSO.out.t.out
  have cA := hAO.cell (k := 0) (u := .slice pO nO kO) rfl
  have fA := frozen_of_row _ A 0 _ _ hAO
  have lA := hAO.lt
  have cF := HSO.out.t.wr.cell (k := 0) (u := wrF A F) rfl
  have lF := HSO.out.t.wr.lt
  obtain ⟨lt, c0, c1, c2, c3, c4, c5, c6, c7, c8⟩ := HSO.out.e.eb
  have HAO := Lib.hid hAO
  have HOO := Lib.hid hOO
  clear hAO hOO
  go_wp2_with fail
  rw [rounds_succ]
  go_upto_region 11 with fail
  have HP := Lib.hid (HSO.out.on (ext_alloc (ext_refl O) (.cells #[.int .u8 41] 5)) (by have := HBW.out; have := HSO.out.b.size; omega))
  go_wp2_with (at_builtin; refine wp_append_byte2 rfl _ _ rfl B _ _ rfl (HOO.out.later ?k1_5) 41 _ _ rfl ?k2_5 ?k3_5 ?k4_5 ?_)
  case k1_5 => exact ext_alloc (ext_refl _) _
  case k2_5 => simp [go_sem]
  case k3_5 => rw [List.length_map]; have := HLN.out; (try simp only [List.length_append, List.length_cons, List.length_nil, printL] at this ⊢); omega
  case k4_5 => have := HBW.out; have := HSO.out.b.size; simp; omega
  intro v2 w2 HO2 hg2 hb2
  obtain ⟨vp, vn, vk, rfl⟩ := HO2.slice
  have HO3 : OwnB w2 B (.slice vp vn vk) (toJ (t ++ [40] ++ Lib.itoa op ++ [32] ++ Ex.print (Ex.mk op1 v1 rel1 col1 n1 s1 l1) ++ [32] ++ Ex.print (Ex.mk op2 v2 rel2 col2 n2 s2 l2) ++ [41])) := by simpa [List.map_append, List.append_assoc] using HO2
  have hst := TS.put HP.out (by have := HBW.out; have := HSO.out.b.size; simp; omega) HGA.out (HAO.out.alloc _) (HOO.out.later (ext_alloc (ext_refl _) _)) hg2 HO3
  have HSN := Lib.hid hst.2.1
  have cA2 := hst.1.cell (k := 0) (u := .slice pO nO kO) rfl
  have fA2 := frozen_of_row _ A 0 _ _ hst.1
  have lA2 := hst.1.lt
  clear hst HO2 HO3 hg2 hb2 HP
  clear cA fA lA cF lF lt c0 c1 c2 c3 c4 c5 c6 c7 c8
  go_wp2_with fail
  obtain ⟨Q, hQ⟩ : ∃ X', X' = w2.setCell ⟨A, 0, none⟩ (.slice vp vn vk) := ⟨_, rfl⟩
  rw [← hQ] at HSN
  rw [← hQ]
  have HSQ := HSN
  clear hQ cA2 fA2 lA2 HSN
  refine bodyPost_end (results_none (by rfl) _ _ _) rfl ⟨rfl, ?_, HSQ.out.k, HSQ.out.b⟩
  rw [HPR.out]
  have := HSQ.out.t
  simpa [printL, List.append_assoc] using this
open Go.RowKit Go.Shelf
set_option maxRecDepth 100000
theorem textC_any : ∀ (k : Nat) (x : Ex), x.deep ≤ k → x.okAll = true → TextC x
  | 0, x, h, _ => absurd (deep_pos x) (by omega)
  | k + 1, .mk op v rel col n s l, h, ho => by
    rw [Ex.okAll, Bool.and_eq_true] at ho
    rw [Ex.deep] at h
    have IH : ∀ y ∈ l, TextC y := fun y hy => textC_any k y (by have := deepL_of_mem hy; omega) (by obtain ⟨i, hi, he⟩ := List.getElem_of_mem hy; exact okL_all ho.2 (i := i) (by rw [List.getElem?_eq_getElem hi, he]))
    have hs := (head_shape ho.1).2
    match l, ho, IH, hs with
    | [], ho, _, _ => exact textC_leaf op v rel col n s ho.1
    | [y0], ho, IH, hs => exact textC_one op v rel col n s y0 (by simp at hs; omega) ho.1 IH
    | [y0, y1], ho, IH, hs => exact textC_two op v rel col n s y0 y1 (by simp at hs; omega) ho.1 IH
    | _ :: _ :: _ :: r, ho, _, _ =>
      have := head_two ho.1
      simp only [List.length_cons] at this
      omega
theorem itoa_le {n : Int} (hn : inR n = true) : (Lib.itoa n).length ≤ 21 := dgs_le n hn
mutual
theorem print_len {w : World} : ∀ (x : Ex) (cs : List Value), ExM w x cs → x.okAll = true → x.print.length + 1 ≤ 101 * x.count
  | .mk op v rel col n s l, cs, hx, ho => by
    rw [ExM.iff] at hx
    obtain ⟨hv, q, c, -, -, hl⟩ := hx
    rw [Ex.okAll, Bool.and_eq_true] at ho
    have hL := printL_len l q 0 hl ho.2
    have hop := op_range ho.1
    have i0 := itoa_le (inR_small (n := op) (by omega) (by omega))
    rw [Ex.count]
    rcases (head_shape ho.1).2 with ⟨rfl, -, -, -, -, hr⟩ | ⟨rfl, -, -, -⟩ | ⟨rfl, -, -, -, -⟩ | ⟨h4, -, -, -, -, -, -⟩
    · rw [print_leaf1]
      have i1 := itoa_le hv.2.1
      obtain ⟨k, m, t⟩ := v
      have hs := size_inR hr
      unfold printV
      rcases right_shape hr with ⟨e, -, -⟩ | ⟨e, -⟩ | ⟨e, -⟩ | ⟨e, -⟩
      · rw [if_pos e]; simp; omega
      · rw [if_neg (by omega), if_pos e]; simp at i1 ⊢; omega
      · rw [if_neg (by omega), if_neg (by omega), if_pos e]; simp at i1 ⊢; omega
      · rw [if_neg (by omega), if_neg (by omega), if_neg (by omega)]
        have h1 := hs e
        have i2 := itoa_le h1.1
        have e2 : t.data.size = t.size := rfl
        simp [e2] at i2 ⊢
        omega
    · rw [print_ref]
      have h1 := rel_ok ho.1 rfl
      have h2 := dcol_ok ho.1 rfl
      have i1 := itoa_le (inR_small h1.1 (by omega : rel ≤ 100))
      have i2 := itoa_le (inR_small h2.1 (by omega : col ≤ 100))
      simp
      omega
    · rw [print_par]
      have h1 := n_ok ho.1 rfl
      have i1 := itoa_le (inR_small (show 0 ≤ n by omega) (by omega : n ≤ 100))
      simp
      omega
    · rw [print_op h4]
      simp
      omega
theorem printL_len {w : World} : ∀ (l : List Ex) (q : Option Addr) (i : Nat), ExL w q i l → okL l = true → (printL l).length ≤ 101 * countL l
  | [], _, _, _, _ => by rw [printL]; simp
  | x :: r, q, i, h, ho => by
    rw [ExL] at h
    rw [okL, Bool.and_eq_true] at ho
    obtain ⟨⟨g, off, cs, -, -, hx, -⟩, hr⟩ := h
    have h1 := print_len x cs hx ho.1
    have h2 := printL_len r q (i + 1) hr ho.2
    rw [printL, countL, List.length_append, List.length_cons]
    omega
end
def textR (x : Ex) : Bs × Int := if rightE x = true then (x.print, 0) else ([], 1)
set_option maxHeartbeats 8000000 in
theorem dtext_any (x : Ex) (cs : List Value) (w : World) (hx : ExM w x cs) (hG : GE w) : Calls Tryd.prog 52 #[.agg cs.toArray] w fun e w' => e = .returned (.tuple #[.string (bsB (textR x).1), .int .i64 (textR x).2]) ∧ Below w.heap.size w w' := by
  have HX := Lib.hid hx
  have HG := Lib.hid hG
  have HC := Lib.hid (fun h => textC_any _ x (Nat.le_refl _) h)
  have HPL := Lib.hid (fun h => print_len x cs hx h)
  obtain ⟨op, v, rel, col, n, s, l⟩ := x
  rw [ExM.iff] at hx
  obtain ⟨-, q, c, rfl, -, -⟩ := hx
  obtain ⟨len, hlen⟩ : ∃ len, len = l.length := ⟨_, rfl⟩
  rw [← hlen] at HX ⊢
  clear hlen hG
  have E0 := EB.new w op v rel col n s q len c 26
  have B0 : Below w.heap.size w (w.alloc (.cells (exCells op v rel col n s q len c).toArray 26)) := ext_alloc (ext_refl _) _
  obtain ⟨W, hW⟩ : ∃ W, W = w.alloc (.cells (exCells op v rel col n s q len c).toArray 26) := ⟨_, rfl⟩
  rw [← hW] at E0 B0
  go_enter Tryd.func52, Tryd.ntmps52
  go_upto_region 1 with fail
  rw [← hW]
  clear hW
  obtain ⟨g, hg⟩ : ∃ g, g = w.heap.size := ⟨_, rfl⟩
  have HB := Lib.hid B0
  have HGW := Lib.hid hg
  rw [← hg] at E0
  rw [← hg]
  clear B0 hg
  have HE := Lib.hid E0
  obtain ⟨lt, c0, c1, c2, c3, c4, c5, c6, c7, c8⟩ := E0
  go_wp2_with fail
  refine (dright_any _ _ W (ExM.ext HB.out _ _ HX.out) (HG.out.on HB.out)).mono ?_
  rintro e X ⟨he, hbX⟩
  have HBX := Lib.hid (HB.out.trans (hbX.mono HB.out.size))
  have EX := HE.out.on hbX
  have HEX := Lib.hid EX
  clear hbX lt c0 c1 c2 c3 c4 c5 c6 c7 c8
  obtain ⟨lt, c0, c1, c2, c3, c4, c5, c6, c7, c8⟩ := EX
  cases hs : rightE (.mk op v rel col n s l) with
  | false =>
    have HQ := Lib.hid (show textR (.mk op v rel col n s l) = ([], 1) by unfold textR; rw [hs]; rfl)
    rw [hs] at he
    clear hs
    subst he
    go_wp2_with fail
    refine bodyPost_ret (v := .tuple #[.string ⟨#[]⟩, .int .i64 1]) (by simp [results, Tryd.results52, go_sem]) rfl ⟨by rw [HQ.out], HBX.out⟩
  | true =>
    have HP := Lib.hid (rightE_parts hs)
    have HQ := Lib.hid (show textR (.mk op v rel col n s l) = ((Ex.mk op v rel col n s l).print, 0) by unfold textR; rw [hs]; rfl)
    rw [hs] at he
    clear hs
    subst he
    go_upto_region 6 with fail
    obtain ⟨A, hA⟩ : ∃ A, A = X.heap.size := ⟨_, rfl⟩
    obtain ⟨V1, hV1⟩ : ∃ V, V = X.alloc (.cells #[.slice none 0 0] 62) := ⟨_, rfl⟩
    have bk1 : Blk V1 A 62 #[.slice none 0 0] := by rw [hV1, hA]; exact Blk.new _ _ _
    have z1 : V1.heap.size = A + 1 := by rw [hV1, hA]; simp
    obtain ⟨V, hV⟩ : ∃ V, V = V1.alloc (.cells #[wrF A (A + 1)] 96) := ⟨_, rfl⟩
    have bk2 : Blk V (A + 1) 96 #[wrF A (A + 1)] := by rw [hV, ← z1]; exact Blk.new _ _ _
    have hT : TX V A A (A + 1) [] := ⟨⟨none, 0, 0, by rw [hV]; exact bk1.alloc _, OwnB.nil _ _⟩, bk2, Nat.le_refl _, by omega⟩
    have bV : Below X.heap.size X V := by rw [hV, hV1]; (repeat (first | exact ext_refl _ | assumption | (refine ext_alloc ?_ _) | (refine ext_drewN ?_ _) | refine ext_drew ?_ | (refine ext_set (by first | (simp; done) | (simp; omega)) _ ?_) | (refine ext_trans ?_ (by assumption))))
    have HVV := Lib.hid (show V = (X.alloc (.cells #[.slice none 0 0] 62)).alloc (.cells #[wrF A (A + 1)] 96) by rw [hV, hV1])
    have EV := HEX.out.on bV
    have HBV := Lib.hid (HBX.out.trans (bV.mono HBX.out.size))
    have HT := Lib.hid hT
    have HAX := Lib.hid (show w.heap.size ≤ A by rw [hA]; exact HBX.out.size)
    rw [← hA]
    rw [← HVV.out]
    clear hV hV1 z1 bk1 bk2 hT bV hA HVV
    clear lt c0 c1 c2 c3 c4 c5 c6 c7 c8
    obtain ⟨lt, c0, c1, c2, c3, c4, c5, c6, c7, c8⟩ := EV
    have cF := HT.out.wr.cell (k := 0) (u := wrF A (A + 1)) rfl
    have lF := HT.out.wr.lt
    go_wp2_with fail
    refine (HC.out HP.out.1 w V _ A A (A + 1) [] HX.out HBV.out HAX.out (Nat.le_trans HG.out.size HAX.out) (HG.out.on HBV.out) HT.out ?_).mono ?_
    · have h1 := HPL.out HP.out.1
      have h2 := HP.out.2.2
      simp only [List.length_nil]
      omega
    rintro e Z ⟨rfl, hTZ, -, hb⟩
    obtain ⟨p, n', c', hA, hcv⟩ := hTZ.conv
    have cA := hA.cell (k := 0) (u := .slice p n' c') rfl
    have lA := hA.lt
    have HBZ := Lib.hid (HBV.out.trans (hb.mono HAX.out))
    clear hTZ hA hb cF lF lt c0 c1 c2 c3 c4 c5 c6 c7 c8
    go_wp2_with fail
    refine bodyPost_ret (v := .tuple #[.string (bsB ([] ++ (Ex.mk op v rel col n s l).print)), .int .i64 0]) (by simp [results, Tryd.results52, go_sem]) rfl ⟨by rw [HQ.out, List.nil_append], HBZ.out⟩
end Go.Proofs.YtklgoajgchfmeaaDoor
