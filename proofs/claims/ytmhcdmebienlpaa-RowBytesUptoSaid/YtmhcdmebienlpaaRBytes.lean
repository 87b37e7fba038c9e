/- Any row is right, and written, and any bytes are read as one, as the chapter says, or refused: whatever the row, whatever the bytes, where both together are of bulk at most 1048576. -/
import Derived.Test.YtmhcdmebienlpaaEx2
import Derived.Test.YtmhcdmebienlpaaArgs
import Derived.Test.YtmhcdmebienlpaaRefDec
import Derived.Test.YtmhcdmebienlpaaRowRight
namespace Go.Proofs.Ytmhcdmebienlpaa
open Go.ChangeShapes Go.WideShapes Go.ChangeAt Go.RowKit Go.Joins

/-- Three cells stored in a row of values: the row is as long as it was. -/
theorem row_store {W : World} {g : Nat} {cur : Array Value} {t : TypeId} (h : W.heap[g]? = some (.cells cur t (0, 0))) (o : Nat) (u v x : Value) :
    ∃ cur', (((W.setCell ⟨g, o, none⟩ u).setCell ⟨g, o + 1, none⟩ v).setCell ⟨g, o + 2, none⟩ x).heap[g]? = some (.cells cur' t (0, 0)) ∧ cur'.size = cur.size := by
  refine ⟨((cur.setIfInBounds o u).setIfInBounds (o + 1) v).setIfInBounds (o + 2) x, ?_, by simp⟩
  rw [setCell_eq_setRow W g o cur t (0, 0) u h]
  have h1 := setRow_heap W g cur (cur.setIfInBounds o u) t (0, 0) h
  rw [setCell_eq_setRow _ g (o + 1) _ t (0, 0) v h1]
  have h2 := setRow_heap _ g _ ((cur.setIfInBounds o u).setIfInBounds (o + 1) v) t (0, 0) h1
  rw [setCell_eq_setRow _ g (o + 2) _ t (0, 0) x h2]
  exact setRow_heap _ g _ _ t (0, 0) h2

set_option maxRecDepth 100000 in
set_option maxHeartbeats 4000000 in
theorem bytes_walk (p : Option Addr) (n cn : Nat) (x : Nat → Val) (s : ByteArray) (w : World) (hn : n ≤ 9223372036854775807) (hX : RowP w p n x) (hs : s.size ≤ 4398046511103) :
    Calls Try.prog 3 #[.slice p n cn, .string s] w fun e w' => e = .returned (.bool true) ∧ Below w.heap.size w w' := by
  cases hd : decRun s.size s []
  · have HD := Lib.hid hd
    clear hd
    go_enter Try.func3, Try.ntmps3
    go_wp2_with fail
    refine (ex2_any _).mono ?_
    rintro e w1 ⟨rfl, hb1⟩
    have H1 := hX.ext hb1
    go_wp2_with fail
    refine (encode_any p n cn x _ hn H1).mono ?_
    rintro e w2 ⟨rfl, hb2⟩
    have E2 := ext_trans hb1 hb2
    have H2 := H1.ext hb2
    go_wp2_with fail
    refine (rencode_any p n cn x _ hn H2).mono ?_
    rintro e w3 ⟨rfl, hb3⟩
    have E3 := ext_trans E2 hb3
    have H3 := H2.ext hb3
    go_wp2_with fail
    refine (rdecode_any s _ hs).mono ?_
    rintro e w4 ⟨hR, hb4⟩
    have E4 := ext_trans E3 hb4
    have H4 := H3.ext hb4
    rw [HD.out] at hR
    have hR : e = .returned (.tuple #[.slice none 0 0, .bool false]) := hR
    subst hR
    go_wp2_with fail
    go_loopw [12] (fun i wr => ∃ k : Nat, k ≤ 2 ∧ i = .int .i64 k ∧ Below w4.heap.size w4 wr) (fun i _ => 2 - (intOf i).toNat)
    case atStart => exact ⟨0, by omega, rfl, ext_refl _⟩
    case round =>
      obtain ⟨k, hk, rfl, hE⟩ := hrel
      by_cases hlt : k < 2
      · go_wp2_with fail
        refine (decode_any s _ (by omega)).mono ?_
        rintro e w6 ⟨hR, hb6⟩
        rw [HD.out] at hR
        have hR : e = .returned (.tuple #[.slice none 0 0, .int .i64 2]) := hR
        subst hR
        go_wp2_with fail
        have L1 := list_one (x := fun _ => nul) (c := 0) (p := none) (n := 0) (t := 22) ((Lib.alloc_old (w6.alloc (.cells #[.slice none 0 0] 22)) (.cells #[.slice none 0 0] 22) w6.heap.size (by simp)).trans (heap_alloc_new w6 _)) (.inl rfl) (by omega)
        have L2 := list_one (x := fun _ => nul) (c := 0) (p := none) (n := 0) (t := 22) (heap_alloc_new (w6.alloc (.cells #[.slice none 0 0] 22)) (.cells #[.slice none 0 0] 22)) (.inl rfl) (by omega)
        rw [World.size_alloc] at L2
        refine (rows_any _ _ 1 1 1 1 _ _ _ _ _ _ _ _ _ (by omega) (by omega) L1 L2).mono ?_
        rintro e w7 ⟨rfl, hb7⟩
        rw [sameRows_one, show same1 0 0 (fun _ => nul) (fun _ => nul) = true from rfl]
        clear L1 L2
        have hE2 : Below w4.heap.size w4 w7 := ext_trans (((ext_trans hE hb6).alloc (by have := hE.size; have := hb6.size; omega) _).alloc (by have := hE.size; have := hb6.size; simp; omega) _) hb7
        go_wp2
        refine wp_loop_rounds 1 ?_
        rw [rounds_succ]
        go_wp2
        go_roundw
        case rel => exact ⟨k + 1, by omega, by go_num, hE2⟩
        case measure => simp [intOf]; omega
      · have hk2 : k = 2 := by omega
        subst hk2
        have H5 := H4.ext hE
        go_wp2_with fail
        refine (rowRight_any p n cn x _ hn H5).mono ?_
        rintro e w8 ⟨rfl, hb8⟩
        go_wp2_with fail
        refine (rrowRight_any p n cn x _ hn (H5.ext hb8)).mono ?_
        rintro e w9 ⟨rfl, hb9⟩
        go_wp2
        go_ret
        exact ⟨rfl, ext_trans (ext_trans (ext_trans E4 hE) hb8) hb9⟩
  · rename_i L
    have HD := Lib.hid hd
    have hm : L.length ≤ 100 := by
      obtain ⟨m, _, _, _, hm⟩ := dec_enc _ _ _ _ (Nat.le_refl _) (by simp) hd
      exact hm
    clear hd
    have hL : L.length ≤ 9223372036854775807 := by omega
    go_enter Try.func3, Try.ntmps3
    go_wp2_with fail
    refine (ex2_any _).mono ?_
    rintro e w1 ⟨rfl, hb1⟩
    have H1 := hX.ext hb1
    go_wp2_with fail
    refine (encode_any p n cn x _ hn H1).mono ?_
    rintro e w2 ⟨rfl, hb2⟩
    have E2 := ext_trans hb1 hb2
    have H2 := H1.ext hb2
    go_wp2_with fail
    refine (rencode_any p n cn x _ hn H2).mono ?_
    rintro e w3 ⟨rfl, hb3⟩
    have E3 := ext_trans E2 hb3
    have H3 := H2.ext hb3
    go_wp2_with fail
    refine (rdecode_any s _ hs).mono ?_
    rintro e w4 ⟨hR, hb4⟩
    have E4 := ext_trans E3 hb4
    have H4 := H3.ext hb4
    rw [HD.out] at hR
    obtain ⟨v, rfl, HO⟩ := hR
    obtain ⟨p4, c4, rfl, R4, _, _⟩ := HO.row
    clear HO
    go_wp2_with fail
    go_loopw [12] (fun i wr => ∃ k : Nat, k ≤ 2 ∧ i = .int .i64 k ∧ Below w4.heap.size w4 wr) (fun i _ => 2 - (intOf i).toNat)
    case atStart => exact ⟨0, by omega, rfl, ext_refl _⟩
    case round =>
      obtain ⟨k, hk, rfl, hE⟩ := hrel
      by_cases hlt : k < 2
      · go_wp2_with fail
        refine (decode_any s _ (by omega)).mono ?_
        rintro e w6 ⟨hR, hb6⟩
        rw [HD.out] at hR
        obtain ⟨v6, rfl, HO⟩ := hR
        have hE6 := ext_trans hE hb6
        obtain ⟨p6, c6, rfl, R6, _, _⟩ := HO.row
        go_wp2_with fail
        have L1 := list_one (x := rowOf L) (c := c6) (p := p6) (n := L.length) (t := 22) ((Lib.alloc_old (w6.alloc (.cells #[.slice p6 L.length c6] 22)) (.cells #[.slice p4 L.length c4] 22) w6.heap.size (by simp)).trans (heap_alloc_new w6 _)) (R6.ext (((Below.refl _ _).alloc (Nat.le_refl _) _).alloc (by simp) _)) hL
        have L2 := list_one (x := rowOf L) (c := c4) (p := p4) (n := L.length) (t := 22) (heap_alloc_new (w6.alloc (.cells #[.slice p6 L.length c6] 22)) (.cells #[.slice p4 L.length c4] 22)) ((R4.ext hE6).ext (((Below.refl _ _).alloc (Nat.le_refl _) _).alloc (by simp) _)) hL
        rw [World.size_alloc] at L2
        refine (rows_any _ _ 1 1 1 1 _ _ _ _ _ _ _ _ _ (by omega) (by omega) L1 L2).mono ?_
        rintro e w7 ⟨rfl, hb7⟩
        rw [sameRows_one, show same1 L.length L.length (rowOf L) (rowOf L) = true from same1_iff.2 ⟨rfl, fun _ _ => rfl⟩]
        clear L1 L2
        have hb67 : Below w6.heap.size w6 w7 := ext_trans (((Below.refl _ _).alloc (Nat.le_refl _) _).alloc (by simp) _) hb7
        have hE7 : Below w4.heap.size w4 w7 := ext_trans hE6 hb67
        have HO7 := HO.later hb67
        clear R6 HO hb7 hb6 hb67
        go_wp2
        go_loopw [16] (fun i wq => ∃ j : Nat, j ≤ L.length ∧ i = .int .i64 j ∧ Below w4.heap.size w4 wq ∧ (L.length = 0 ∨ ∃ g cur, p6 = some ⟨g, 0, none⟩ ∧ w4.heap.size ≤ g ∧ wq.heap[g]? = some (.cells cur 36 (0, 0)) ∧ L.length * 3 ≤ cur.size)) (fun i _ => L.length - (intOf i).toNat)
        case atStart =>
          refine ⟨0, by omega, rfl, hE7, ?_⟩
          obtain ⟨_, h2⟩ := HO7
          rcases h2 with ⟨_, h0⟩ | ⟨g, cap, cur, hv, hb, hg, hn, _, hc, _⟩
          · exact .inl h0
          · cases hv
            exact .inr ⟨g, cur, rfl, Nat.le_trans hE.size hb, hg, by omega⟩
        case round =>
          obtain ⟨j, hj, rfl, hq, hO⟩ := hrel
          by_cases hjl : j < L.length
          · rcases hO with h0 | ⟨g, cur, rfl, hgb, hg, hc⟩
            · omega
            · have q0 : ∃ u, wr.cell? ⟨g, j * 3, none⟩ = some u := ⟨_, by rw [Lib.cell_of_heap hg]; exact Array.getElem?_eq_getElem (by omega)⟩
              have q1 : ∃ u, wr.cell? ⟨g, j * 3 + 1, none⟩ = some u := ⟨_, by rw [Lib.cell_of_heap hg]; exact Array.getElem?_eq_getElem (by omega)⟩
              have q2 : ∃ u, wr.cell? ⟨g, j * 3 + 2, none⟩ = some u := ⟨_, by rw [Lib.cell_of_heap hg]; exact Array.getElem?_eq_getElem (by omega)⟩
              obtain ⟨u0, q0⟩ := q0
              obtain ⟨u1, q1⟩ := q1
              obtain ⟨u2, q2⟩ := q2
              have f0 := Lib.frozen_of_heap hg
              go_wp2
              go_roundw
              case rel =>
                obtain ⟨cur', hg', hs'⟩ := row_store hg (j * 3) (.int .i64 9) (.int .i64 0) (.string ⟨#[]⟩)
                exact ⟨j + 1, by omega, by go_num, ((hq.setCell (p := ⟨g, _, none⟩) hgb _).setCell (p := ⟨g, _, none⟩) hgb _).setCell (p := ⟨g, _, none⟩) hgb _, .inr ⟨g, cur', rfl, hgb, hg', by omega⟩⟩
              case measure => simp [intOf]; omega
          · have hjL : j = L.length := by omega
            subst hjL
            go_wp2
            go_roundw
            case rel => exact ⟨k + 1, by omega, by go_num, hq⟩
            case measure => simp [intOf]; omega
      · have hk2 : k = 2 := by omega
        subst hk2
        have H5 := H4.ext hE
        go_wp2_with fail
        refine (rowRight_any p n cn x _ hn H5).mono ?_
        rintro e w8 ⟨rfl, hb8⟩
        go_wp2_with fail
        refine (rrowRight_any p n cn x _ hn (H5.ext hb8)).mono ?_
        rintro e w9 ⟨rfl, hb9⟩
        go_wp2
        go_ret
        exact ⟨rfl, ext_trans (ext_trans (ext_trans E4 hE) hb8) hb9⟩

/- FRAME -/

set_option maxRecDepth 100000 in
theorem rowBytes_lifted (os : Os) (started : os.Started) (H : Type) (enc : TypeId × Value → H) (F : Stop.Interp) :
    ReturnsInHanded {} Try.checked os 3 .any ((Rows.OpenSpec.upto Rows.rowBytesSpec).pre6 enc Try.prog Try.f3 Rows.rowBytesUptoRow.domain false) (((Rows.OpenSpec.upto Rows.rowBytesSpec).at F).post enc Try.prog Try.f3 false true false false) := by
  refine returnsInHanded_of_cond (C := Try.checked) (s := Rows.OpenSpec.upto Rows.rowBytesSpec) (k := Rows.uptoSmall) rfl Try.own started (by kernel_rfl) Try.func3
    (OpenSpec.witness (enc := enc) (C := Try.checked) (s := Rows.OpenSpec.upto Rows.rowBytesSpec) (k := Rows.uptoSmall) rfl false ⟨#[], #[.slice none 0 0, .string ⟨#[]⟩], []⟩ 8 (by kernel_rfl) (by kernel_rfl) (by kernel_rfl)
      (x := ([.nil, .lit (.string [])], [], [])) (by kernel_rfl) rfl (by kernel_rfl)) ?_
  intro W base args ds gs before hval0 hW _ hk _
  have hval : ∀ (j : Nat) t v, Try.f3.params[j]? = some t → args[j]? = some v → Value.okWide Try.prog W .any base t v := hval0
  have hW' := hW
  obtain ⟨p, q, hA0, hV, rfl, _, _⟩ := hW
  obtain ⟨rfl, rfl⟩ := trodVars_none hV
  have hA : DataW.TrodAll enc Try.prog W 0 (fun _ => true) true Try.f3.params.toList args.toList ds p := hA0
  rw [Try.params3] at hA hval
  obtain ⟨v0, v1, d0, d1, p0, p1, rfl, rfl, rfl, h0, h1⟩ := trodAll_two hA
  have hB : Rows.uptoBulkAll [d0, d1] ≤ 1048576 := of_decide_eq_true hk
  simp only [Rows.uptoBulkAll] at hB
  obtain ⟨a0, n0, c0, x0, ax0, bx0⟩ := open_row2 (hval 0 22 v0 rfl rfl) h0
  obtain rfl := ax0.eq
  obtain ⟨s1, rfl, zs1, bs1⟩ := open_text2 (hval 1 9 v1 rfl rfl) h1
  clear hA0 hval0
  refine (bytes_walk a0 n0 c0 x0 s1 W ax0.le ax0.row (by omega)).mono fun e W' ⟨he, hb⟩ => ⟨_, he, post_law rfl hW' rfl rfl ?_ hb⟩
  intro t ht
  rw [Try.params3] at ht
  simp only [List.mem_cons, List.not_mem_nil, or_false] at ht
  rcases ht with rfl | rfl <;> exact ⟨by kernel_rfl, of_decide_eq_true (by kernel_rfl)⟩

theorem rowBytes_holds : Rows.RowBytesUptoSaid :=
  OpenClaim.holds_of_cond 3 Try.f3 rfl rfl rfl rfl rfl rfl rfl ⟨rfl, rfl, rfl, rfl, rfl⟩ rfl rfl rfl rfl rfl (by kernel_rfl) Try.func3 (by kernel_rfl)
    (of_decide_eq_true (by kernel_rfl)) (by unfold Func.isWrapper; rw [if_neg (of_decide_eq_false (by kernel_rfl))]; exact ⟨rfl, rfl⟩)
    (fun os started H enc _ F => rowBytes_lifted os started H enc F)

#print axioms rowBytes_holds

end Go.Proofs.Ytmhcdmebienlpaa
