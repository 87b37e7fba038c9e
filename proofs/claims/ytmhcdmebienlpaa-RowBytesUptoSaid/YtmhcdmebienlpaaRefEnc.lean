/- The document's own answer to Encode. -/
import Derived.Test.YtmhcdmebienlpaaRefRow
import Derived.Test.YtmhcdmebienlpaaBox
import Derived.Test.YtmhcdmebienlpaaEncode
import Derived.Laws.BytesString
namespace Go.Proofs.Ytmhcdmebienlpaa
open Go.RowKit

/-- Block b holds the value x: all of it. -/
def VBox (W : World) (b : Nat) (x : Val) : Prop := W.heap[b]? = some (.cells #[.int .i64 x.k, .int .i64 x.n, .string x.s] 36)
theorem VBox.c0 {W : World} {b : Nat} {x : Val} (h : VBox W b x) : W.cell? ⟨b, 0, none⟩ = some (.int .i64 x.k) := by rw [Lib.cell_of_heap h]; rfl
theorem VBox.c1 {W : World} {b : Nat} {x : Val} (h : VBox W b x) : W.cell? ⟨b, 1, none⟩ = some (.int .i64 x.n) := by rw [Lib.cell_of_heap h]; rfl
theorem VBox.c2 {W : World} {b : Nat} {x : Val} (h : VBox W b x) : W.cell? ⟨b, 2, none⟩ = some (.string x.s) := by rw [Lib.cell_of_heap h]; rfl
theorem VBox.lt {W : World} {b : Nat} {x : Val} (h : VBox W b x) : b < W.heap.size := by
  rcases Nat.lt_or_ge b W.heap.size with h' | h'
  · exact h'
  · rw [VBox, Array.getElem?_eq_none h'] at h; cases h
theorem VBox.alloc {W : World} {b : Nat} {x : Val} (h : VBox W b x) (o : Obj) : VBox (W.alloc o) b x := (Lib.alloc_old W o b h.lt).trans h
theorem VBox.grown {W W' : World} {b : Nat} {x : Val} {base : Nat} {v : Value} {l : List Int} (h : VBox W b x) (ho : OwnB W base v l) (hg : W.grownBy W' v.ownBlock) : VBox W' b x :=
  (hg.block b h.lt (fun e => Lib.ownBlock_ne ho h (by decide) e.symm)).trans h

theorem foldl_push (l : List UInt8) : ∀ acc : ByteArray, (toI l).foldl (fun (r : ByteArray) (n : Int) => r.push (UInt8.ofNat n.toNat)) acc = ⟨acc.data ++ l.toArray⟩ := by
  induction l with
  | nil => intro acc; simp [toI]
  | cons b l ih =>
    intro acc
    have := ih (acc.push b)
    unfold toI at this ⊢
    simp only [List.map_cons, List.foldl_cons, Int.toNat_natCast, UInt8.ofNat_toNat]
    rw [this]
    simp [ByteArray.push]

theorem conv_bytes {w : World} {base : Nat} {v : Value} {l : List UInt8} (h : OwnB w base v (toI l)) : (convert 47 9 v).run Try.prog w = .ok (.string ⟨l.toArray⟩) w := by
  have h' := h
  obtain ⟨h1, h2⟩ := h'
  rcases h2 with ⟨rfl, h0⟩ | ⟨g, cap, cur, rfl, hb, hg, hn, hm, hc, ht⟩
  · have : l = [] := by rw [toI_length] at h0; exact List.eq_nil_of_length_eq_zero h0
    subst this
    rw [run_convert_bytes_string w 47 9 5 none 0 0 Try.underlying47 Try.underlying5 Try.underlying9]
    rfl
  · rw [run_convert_bytes_string w 47 9 5 _ _ _ Try.underlying47 Try.underlying5 Try.underlying9]
    have hl : (loadCells ⟨g, 0, none⟩ (toI l).length).run Try.prog w = .ok ((toI l).map (Value.int .u8)).toArray w := by
      have := run_loadCells_list (P := Try.prog) w ⟨g, 0, none⟩ ((toI l).map (Value.int .u8)) (fun j u hu => World.ownsRow.cells h (g := g) rfl j u hu)
      rwa [List.length_map] at this
    rw [run_bytesToString w _ _ cap (toI l) hl, foldl_push]
    simp

theorem shr_byte (n : Int) (j : Nat) (hj : j < 8) : IntKind.u8.wrap (n / 2 ^ (8 * (7 - j))) = be8 n j := by
  have hu : IntKind.u64.wrap n = n % 18446744073709551616 := by simp [IntKind.wrap, IntKind.bits, IntKind.signed]
  have hb : ∀ m : Int, IntKind.u8.wrap m = m % 256 := by intro m; simp [IntKind.wrap, IntKind.bits, IntKind.signed]
  unfold be8
  rw [hu, hb]
  match j, hj with
  | 0, _ => simp; omega
  | 1, _ => simp; omega
  | 2, _ => simp; omega
  | 3, _ => simp; omega
  | 4, _ => simp; omega
  | 5, _ => simp; omega
  | 6, _ => simp; omega
  | 7, _ => simp

/-- A right value's bytes, by its kind. -/
theorem encI_kind (x : Val) (hr : x.right = true) : (x.k = 0 ∧ encI x = [0]) ∨ (x.k = 1 ∧ encI x = 1 :: (List.range 8).map (be8 x.n)) ∨ (x.k = 2 ∧ encI x = [2, x.n] ∧ x.n % 256 = x.n) ∨ (x.k = 3 ∧ encI x = 3 :: (x.s.size : Int) :: toI x.s.data.toList ∧ x.s.size ≤ 40) := by
  obtain ⟨k, n, s⟩ := x
  unfold Val.right at hr
  dsimp only at hr ⊢
  by_cases k0 : k = 0
  · subst k0; exact .inl ⟨rfl, rfl⟩
  by_cases k1 : k = 1
  · subst k1; exact .inr (.inl ⟨rfl, rfl⟩)
  by_cases k2 : k = 2
  · subst k2
    simp at hr
    exact .inr (.inr (.inl ⟨rfl, rfl, by omega⟩))
  by_cases k3 : k = 3
  · subst k3
    simp at hr
    exact .inr (.inr (.inr ⟨rfl, rfl, hr.2⟩))
  · simp [k0, k1, k2, k3] at hr

set_option maxHeartbeats 4000000 in
theorem rencode_some (p : Option Addr) (len cap : Nat) (x : Nat → Val) (w : World) (hl : len ≤ 100) (hR : RowP w p len x) (hr : allRight len x = true) :
    Calls Try.prog 12 #[.slice p len cap] w fun e w' => e = .returned (.tuple #[.string ⟨(encRow x len).toArray⟩, .int .i64 0]) ∧ Below w.heap.size w w' := by
  go_enter Try.func12, Try.ntmps12
  go_wp2_with fail
  refine (rrowRight_any p len cap x _ (by omega) hR).mono ?_
  rintro e w1 ⟨rfl, hb⟩
  rw [hr, decide_eq_true hl]
  have hR1 := hR.ext hb
  go_wp2_with fail
  go_loopw [5, 6] (fun v i wr => ∃ k : Nat, k ≤ len ∧ i = .int .i64 k ∧ OwnB wr w.heap.size v (toI (encRow x k)) ∧ Below w.heap.size w wr) (fun _ i _ => len - (intOf i).toNat)
  case atStart => exact ⟨0, Nat.zero_le _, rfl, OwnB.nil _ _, hb⟩
  case round =>
    obtain ⟨k, hk, rfl, HO, hE⟩ := hrel
    by_cases hlt : k < len
    · obtain ⟨b, off, rfl, S⟩ := (hR.ext hE).one hlt
      have q0 := S.c0 k hlt
      have q1 := S.c1 k hlt
      have q2 := S.c2 k hlt
      have hrk := allRight_one hr hlt
      have hn := encI_length (x k) hrk
      have hrow := (encRow_length x k (allRight_le hr hk)).2
      have hsz := hE.size
      clear S
      obtain ⟨vp, vn, vc, rfl⟩ := HO.slice
      have hI4 := encI_kind (x k) hrk
      rcases hI4 with ⟨hk0, hI⟩ | ⟨hk0, hI⟩ | ⟨hk0, hI, hnn⟩ | ⟨hk0, hI, hss⟩
      · rw [hk0] at q0
        go_wp2_with (at_builtin; refine wp_append_byte2 rfl _ _ rfl w.heap.size _ _ rfl (HO.later ?k1_1) 0 _ _ rfl ?k2_1 ?k3_1 ?k4_1 ?_)
        try (case k1_1 => ((repeat (first | exact ext_refl _ | assumption | (refine ext_alloc ?_ _) | (refine ext_drewN ?_ _) | refine ext_drew ?_ | (refine ext_set (by first | (simp; done) | (simp; omega)) _ ?_) | (refine ext_trans ?_ (by assumption))))))
        try (case k2_1 => (simp [go_sem]))
        try (case k3_1 => (rw [toI_length]; omega))
        try (case k4_1 => (first | omega | (simp; omega)))
        intro v2 w2 HO2 hg2 hb2
        obtain ⟨vp2, vn2, vc2, rfl⟩ := HO2.slice
        have VB : VBox w2 wr.heap.size ⟨0, (x k).n, (x k).s⟩ := VBox.grown (v := .slice vp vn vc) (VBox.alloc (heap_alloc_new wr _) _) (HO.later (by (repeat (first | exact ext_refl _ | assumption | (refine ext_alloc ?_ _) | (refine ext_drewN ?_ _) | refine ext_drew ?_ | (refine ext_set (by first | (simp; done) | (simp; omega)) _ ?_) | (refine ext_trans ?_ (by assumption)))))) hg2
        have v0 := VB.c0
        have v1 := VB.c1
        have v2 := VB.c2
        have hE2 : Below w.heap.size w w2 := Below.trans (ext_alloc (ext_alloc hE _) _) hb2
        have hsz2 := hE2.size
        go_wp2
        go_roundw
        case rel => exact ⟨k + 1, by omega, by go_num, by rw [encRow, toI_append, toI_encB _ hrk, hI]; exact HO2, hE2⟩
        case measure => simp [intOf]; omega
      · rw [hk0] at q0
        go_wp2_with (at_builtin; refine wp_append_byte2 rfl _ _ rfl w.heap.size _ _ rfl (HO.later ?k1_2) 1 _ _ rfl ?k2_2 ?k3_2 ?k4_2 ?_)
        try (case k1_2 => ((repeat (first | exact ext_refl _ | assumption | (refine ext_alloc ?_ _) | (refine ext_drewN ?_ _) | refine ext_drew ?_ | (refine ext_set (by first | (simp; done) | (simp; omega)) _ ?_) | (refine ext_trans ?_ (by assumption))))))
        try (case k2_2 => (simp [go_sem]))
        try (case k3_2 => (rw [toI_length]; omega))
        try (case k4_2 => (first | omega | (simp; omega)))
        intro v2 w2 HO2 hg2 hb2
        obtain ⟨vp2, vn2, vc2, rfl⟩ := HO2.slice
        have VB : VBox w2 wr.heap.size ⟨1, (x k).n, (x k).s⟩ := VBox.grown (v := .slice vp vn vc) (VBox.alloc (heap_alloc_new wr _) _) (HO.later (by (repeat (first | exact ext_refl _ | assumption | (refine ext_alloc ?_ _) | (refine ext_drewN ?_ _) | refine ext_drew ?_ | (refine ext_set (by first | (simp; done) | (simp; omega)) _ ?_) | (refine ext_trans ?_ (by assumption)))))) hg2
        have v0 := VB.c0
        have v1 := VB.c1
        have v2 := VB.c2
        have hE2 : Below w.heap.size w w2 := Below.trans (ext_alloc (ext_alloc hE _) _) hb2
        have hsz2 := hE2.size
        go_wp2_with fail
        go_loopw [5, 8] (fun v i wq => ∃ j : Nat, j ≤ 8 ∧ i = .int .i64 (7 - j) ∧ OwnB wq w.heap.size v (toI (encRow x k) ++ (1 :: (List.range j).map (be8 (x k).n))) ∧ VBox wq wr.heap.size ⟨1, (x k).n, (x k).s⟩ ∧ Below w.heap.size w wq) (fun _ i _ => (intOf i + 1).toNat)
        case atStart => exact ⟨0, by omega, rfl, by simpa using HO2, VB, hE2⟩
        case round =>
          obtain ⟨j, hj, rfl, HO3, VB3, hE3⟩ := hrel
          obtain ⟨vp3, vn3, vc3, rfl⟩ := HO3.slice
          have hsz3 := hE3.size
          clear v0 v1 v2 VB HO2 hg2 HO
          have v1 := VB3.c1
          by_cases hlt8 : j < 8
          · have hsh := shr_byte (x k).n j hlt8
            have e1 : (8 * (7 - (j : Int))).toNat = 8 * (7 - j) := by omega
            have e2 : wrap64 (8 * (7 - (j : Int))) = ((8 * (7 - j) : Nat) : Int) := by unfold wrap64; omega
            go_wp2_with (at_builtin; refine wp_append_byte2 rfl _ _ rfl w.heap.size _ _ rfl (HO3.later ?m1) (be8 (x k).n j) _ _ rfl ?m2 ?m3 ?m4 ?_)
            try (case m1 => ((repeat (first | exact ext_refl _ | assumption | (refine ext_alloc ?_ _) | (refine ext_drewN ?_ _) | refine ext_drew ?_ | (refine ext_set (by first | (simp; done) | (simp; omega)) _ ?_) | (refine ext_trans ?_ (by assumption))))))
            try (case m2 => (simp [go_sem]))
            try (case m3 => (first | omega | (simp [toI_length]; omega)))
            try (case m4 => (first | omega | (simp; omega)))
            intro v4 w4 HO4 hg4 hb4
            obtain ⟨vp4, vn4, vc4, rfl⟩ := HO4.slice
            have VB4 := VBox.grown (v := .slice vp3 vn3 vc3) (VB3.alloc _) (HO3.later (by (repeat (first | exact ext_refl _ | assumption | (refine ext_alloc ?_ _) | (refine ext_drewN ?_ _) | refine ext_drew ?_ | (refine ext_set (by first | (simp; done) | (simp; omega)) _ ?_) | (refine ext_trans ?_ (by assumption)))))) hg4
            go_wp2
            go_roundw
            case rel => exact ⟨j + 1, by omega, congrArg (Value.int .i64) (by omega), by simpa [List.range_succ] using HO4, VB4, Below.trans (ext_alloc hE3 _) hb4⟩
            case measure => simp [intOf]; omega
          · have hj8 : j = 8 := by omega
            subst hj8
            go_wp2
            go_roundw
            case rel => exact ⟨k + 1, by omega, by go_num, by rw [encRow, toI_append, toI_encB _ hrk, hI]; exact HO3, hE3⟩
            case measure => simp [intOf]; omega
      · rw [hk0] at q0
        go_wp2_with (at_builtin; refine wp_append_byte2 rfl _ _ rfl w.heap.size _ _ rfl (HO.later ?k1_3) 2 _ _ rfl ?k2_3 ?k3_3 ?k4_3 ?_)
        try (case k1_3 => ((repeat (first | exact ext_refl _ | assumption | (refine ext_alloc ?_ _) | (refine ext_drewN ?_ _) | refine ext_drew ?_ | (refine ext_set (by first | (simp; done) | (simp; omega)) _ ?_) | (refine ext_trans ?_ (by assumption))))))
        try (case k2_3 => (simp [go_sem]))
        try (case k3_3 => (rw [toI_length]; omega))
        try (case k4_3 => (first | omega | (simp; omega)))
        intro v2 w2 HO2 hg2 hb2
        obtain ⟨vp2, vn2, vc2, rfl⟩ := HO2.slice
        have VB : VBox w2 wr.heap.size ⟨2, (x k).n, (x k).s⟩ := VBox.grown (v := .slice vp vn vc) (VBox.alloc (heap_alloc_new wr _) _) (HO.later (by (repeat (first | exact ext_refl _ | assumption | (refine ext_alloc ?_ _) | (refine ext_drewN ?_ _) | refine ext_drew ?_ | (refine ext_set (by first | (simp; done) | (simp; omega)) _ ?_) | (refine ext_trans ?_ (by assumption)))))) hg2
        have v0 := VB.c0
        have v1 := VB.c1
        have v2 := VB.c2
        have hE2 : Below w.heap.size w w2 := Below.trans (ext_alloc (ext_alloc hE _) _) hb2
        have hsz2 := hE2.size
        go_wp2_with (at_builtin; refine wp_append_byte2 rfl _ _ rfl w.heap.size _ _ rfl (HO2.later ?k1_4) (x k).n _ _ rfl ?k2_4 ?k3_4 ?k4_4 ?_)
        try (case k1_4 => ((repeat (first | exact ext_refl _ | assumption | (refine ext_alloc ?_ _) | (refine ext_drewN ?_ _) | refine ext_drew ?_ | (refine ext_set (by first | (simp; done) | (simp; omega)) _ ?_) | (refine ext_trans ?_ (by assumption))))))
        try (case k2_4 => (simp [go_sem, hnn]))
        try (case k3_4 => (first | omega | (simp [toI_length]; omega)))
        try (case k4_4 => (first | omega | (simp; omega)))
        intro v3 w3 HO3 hg3 hb3
        obtain ⟨vp3, vn3, vc3, rfl⟩ := HO3.slice
        go_wp2
        go_roundw
        case rel => exact ⟨k + 1, by omega, by go_num, by rw [encRow, toI_append, toI_encB _ hrk, hI]; simpa using HO3, Below.trans (ext_alloc hE2 _) hb3⟩
        case measure => simp [intOf]; omega
      · rw [hk0] at q0
        go_wp2_with (at_builtin; refine wp_append_byte2 rfl _ _ rfl w.heap.size _ _ rfl (HO.later ?k1_5) 3 _ _ rfl ?k2_5 ?k3_5 ?k4_5 ?_)
        try (case k1_5 => ((repeat (first | exact ext_refl _ | assumption | (refine ext_alloc ?_ _) | (refine ext_drewN ?_ _) | refine ext_drew ?_ | (refine ext_set (by first | (simp; done) | (simp; omega)) _ ?_) | (refine ext_trans ?_ (by assumption))))))
        try (case k2_5 => (simp [go_sem]))
        try (case k3_5 => (rw [toI_length]; omega))
        try (case k4_5 => (first | omega | (simp; omega)))
        intro v2 w2 HO2 hg2 hb2
        obtain ⟨vp2, vn2, vc2, rfl⟩ := HO2.slice
        have VB : VBox w2 wr.heap.size ⟨3, (x k).n, (x k).s⟩ := VBox.grown (v := .slice vp vn vc) (VBox.alloc (heap_alloc_new wr _) _) (HO.later (by (repeat (first | exact ext_refl _ | assumption | (refine ext_alloc ?_ _) | (refine ext_drewN ?_ _) | refine ext_drew ?_ | (refine ext_set (by first | (simp; done) | (simp; omega)) _ ?_) | (refine ext_trans ?_ (by assumption)))))) hg2
        have v0 := VB.c0
        have v1 := VB.c1
        have v2 := VB.c2
        have hE2 : Below w.heap.size w w2 := Below.trans (ext_alloc (ext_alloc hE _) _) hb2
        have hsz2 := hE2.size
        have hsn : (((x k).s.size : Nat) : Int) % 256 = ((x k).s.size : Nat) := by omega
        go_wp2_with (at_builtin; refine wp_append_byte2 rfl _ _ rfl w.heap.size _ _ rfl (HO2.later ?n1) ((x k).s.size : Nat) _ _ rfl ?n2 ?n3 ?n4 ?_)
        try (case n1 => ((repeat (first | exact ext_refl _ | assumption | (refine ext_alloc ?_ _) | (refine ext_drewN ?_ _) | refine ext_drew ?_ | (refine ext_set (by first | (simp; done) | (simp; omega)) _ ?_) | (refine ext_trans ?_ (by assumption))))))
        try (case n2 => (simp [go_sem, hsn]))
        try (case n3 => (first | omega | (simp [toI_length]; omega)))
        try (case n4 => (first | omega | (simp; omega)))
        intro v3 w3 HO3 hg3 hb3
        obtain ⟨vp3, vn3, vc3, rfl⟩ := HO3.slice
        have VB3 := VBox.grown (v := .slice vp2 vn2 vc2) (VB.alloc _) (HO2.later (by (repeat (first | exact ext_refl _ | assumption | (refine ext_alloc ?_ _) | (refine ext_drewN ?_ _) | refine ext_drew ?_ | (refine ext_set (by first | (simp; done) | (simp; omega)) _ ?_) | (refine ext_trans ?_ (by assumption)))))) hg3
        clear v0 v1 v2
        have v2 := VB3.c2
        have hE3 : Below w.heap.size w w3 := Below.trans (ext_alloc hE2 _) hb3
        have hsz3 := hE3.size
        obtain ⟨i0, hi, hz0, hz1, hz2⟩ := info_parts Try.infoU8
        go_wp2_with (at_builtin; refine Lib.wpList_append_own_string w3 rfl _ _ 47 9 rfl w.heap.size 5 i0 Try.underlying47 Try.underlying9 hi hz0 hz1 hz2 _ _ _ rfl HO3 (x k).s rfl ?o1 ?o2 ?o3 ?_)
        try (case o1 => (unfold maxLen; simp [toI_length]; omega))
        try (case o2 => (first | omega | (simp [toI_length]; omega)))
        try (case o3 => (omega))
        intro v4 w4 HO4 hg4 _
        have HO5 : OwnB w4 w.heap.size v4 (toI (encRow x k) ++ (3 :: ((x k).s.size : Int) :: toI (x k).s.data.toList)) := by
          unfold OwnB
          have e1 : (toI (x k).s.data.toList).length = (x k).s.size := by rw [toI_length, Array.length_toList]; rfl
          rw [Lib.strCells_eq, ← toI_cells] at HO4
          have e2 : (toI (encRow x k)).length + ((x k).s.size + 1 + 1) = (toI (encRow x k)).length + 2 + (x k).s.size := by omega
          simpa [e1, e2] using HO4
        have hE4 : Below w.heap.size w w4 := hE3.trans ((Below.refl _ _).grown hg4 hsz3 fun g hg => (HO3.lt g hg).1)
        obtain ⟨vp4, vn4, vc4, rfl⟩ := HO5.slice
        go_wp2
        go_roundw
        case rel => exact ⟨k + 1, by omega, by go_num, by rw [encRow, toI_append, toI_encB _ hrk, hI]; exact HO5, hE4⟩
        case measure => simp [intOf]; omega
    · have hkl : k = len := by omega
      subst hkl
      have hcv := conv_bytes HO
      go_wp2
      go_ret2
      exact ⟨rfl, hE⟩

set_option maxHeartbeats 1000000 in
theorem rencode_any (p : Option Addr) (len cap : Nat) (x : Nat → Val) (w : World) (hl : len ≤ 9223372036854775807) (hR : RowP w p len x) :
    Calls Try.prog 12 #[.slice p len cap] w fun e w' => e = .returned (.tuple #[.string (encS len x), .int .i64 (encE len x)]) ∧ Below w.heap.size w w' := by
  unfold encS encE
  by_cases h100 : 100 < len
  · rw [if_pos h100, if_pos h100]
    go_enter Try.func12, Try.ntmps12
    go_wp2
    go_ret2
    exact ⟨rfl, ext_refl _⟩
  rw [if_neg h100, if_neg h100]
  cases hr : allRight len x
  · simp only [Bool.false_eq_true, ↓reduceIte]
    go_enter Try.func12, Try.ntmps12
    go_wp2_with fail
    refine (rrowRight_any p len cap x _ hl hR).mono ?_
    rintro e w1 ⟨rfl, hb⟩
    rw [hr, Bool.false_and]
    go_wp2
    go_ret2
    exact ⟨rfl, hb⟩
  simp only [↓reduceIte]
  exact rencode_some p len cap x w (by omega) hR hr

end Go.Proofs.Ytmhcdmebienlpaa
