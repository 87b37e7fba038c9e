/- The reference's Lex: it answers what lexS says. -/
import Derived.Test.YtejfjlbnehdgnaaDoorLxRO
namespace Go.Proofs.YtejfjlbnehdgnaaDoor
open Go.RowKit
set_option maxRecDepth 100000

theorem Tryd.infoTokR : (Tryd.prog.info? 31).map (fun i => (i.zero, i.size, i.bytes)) = some (some (.agg #[.int .i64 0, .int .i64 0, .int .i64 0, .string ⟨#[]⟩]), 4, 40) := by kernel_rfl
theorem pre_pre (A B : List Tok) (r : Res) : (r.pre B).pre A = r.pre (A ++ B) := by cases r <;> simp [Res.pre]
theorem push_pre (t : Tok) (A : List Tok) (r : Res) : (r.push t).pre A = r.pre (A ++ [t]) := by cases r <;> simp [Res.pre, Res.push]

set_option maxHeartbeats 4000000 in
theorem rlex_any (s : ByteArray) (w : World) (hs : s.size ≤ 9223372036854775807) (r : Res) (hr : lexS s.data.toList = r) :
    Calls Tryd.prog 10 #[.string s] w fun e w' => (∃ q c, e = .returned (.tuple #[.slice q r.list.length c, .int .i64 (r.er : Int), .int .i64 (r.pl : Int)]) ∧ r.list.length ≤ c ∧ c ≤ 9223372036854775807 ∧ ArrA w.heap.size w'.heap.size q 4 r.list (TokC w')) ∧ Below w.heap.size w w' := by
  have hsl : s.data.toList.length = s.size := Array.length_toList
  by_cases h2000 : 2000 < s.size
  · obtain rfl : r = .err 5 0 := by rw [← hr]; unfold lexS; rw [if_pos (by omega)]
    have z1 : (s.size : Int) > 2000 := by omega
    clear hr
    go_enter Tryd.func10, Tryd.ntmps10
    go_wp2_with fail
    refine bodyPost_ret (v := .tuple #[.slice none 0 0, .int .i64 5, .int .i64 0]) (by simp [results, Tryd.results10, go_sem]) rfl ?_
    exact ⟨⟨none, 0, rfl, Nat.le_refl _, by omega, fun i hi => absurd hi (Nat.not_lt_zero _)⟩, Below.refl _ _⟩
  · have z1 : ¬ (s.size : Int) > 2000 := by omega
    have hL : lexL s.data.toList 0 0 = r := by rw [← hr]; unfold lexS; rw [if_neg (by omega)]
    have HL := Lib.hid hL
    clear hr hL
    go_enter Tryd.func10, Tryd.ntmps10
    go_wp2_with fail
    go_loopw [5, 6] (fun vo vj wr => ∃ (j : Nat) (L : List Tok), vj = .int .i64 j ∧ j ≤ s.size ∧ L.length ≤ 400 ∧ Hid (OwnF wr w.heap.size 31 4 tokCell vo L ∧ Below w.heap.size w wr ∧ r = (lexL (s.data.toList.drop j) j L.length).pre L)) (fun _ vj _ => s.size - (intOf vj).toNat)
    case atStart => exact ⟨0, [], rfl, Nat.zero_le _, by simp, OwnF.nil _ _ _, Below.refl _ _, by rw [← HL.out, pre_nil]; rfl⟩
    case round =>
      obtain ⟨j, L, rfl, hj, hL4, HH⟩ := hrel
      obtain ⟨V, hV⟩ : ∃ V, V = wr := ⟨_, rfl⟩
      rw [← hV] at HH
      rw [← hV]
      clear hV
      have HO := HH.out.1
      obtain ⟨q, c, rfl, hlc, hcm, -, hAr⟩ := HO.arr tokCell_len
      have HA := Lib.hid (ArrA.imp hAr (P' := TokC V) fun _ _ _ _ _ h => ⟨h 0 _ rfl, h 1 _ rfl, h 2 _ rfl, h 3 _ rfl⟩)
      clear HO hAr
      by_cases hlt : j < s.size
      · obtain ⟨b, hb⟩ : ∃ b, s.data.toList[j]? = some b := ⟨_, List.getElem?_eq_getElem (by rw [hsl]; exact hlt)⟩
        obtain ⟨p4, p5⟩ := byt_data hb
        have eb := (byt_at s j p4).trans p5
        have hd : s.data.toList.drop j = b :: s.data.toList.drop (j + 1) := by
          obtain ⟨h1, rfl⟩ := List.getElem?_eq_some_iff.1 hb
          exact List.drop_eq_getElem_cons h1
        obtain ⟨x, hx⟩ : ∃ x, x = (b.toNat : Int) := ⟨_, rfl⟩
        rw [← hx] at eb
        cases hbl : isBlank b with
        | true =>
          have h1 := yes_blank hbl
          rw [← hx] at h1
          have HN := Lib.hid (show r = (lexL (s.data.toList.drop (j + 1)) (j + 1) L.length).pre L by rw [HH.out.2.2, hd, lexL_blank hbl])
          clear hd hb p5 hx hbl HA
          rcases h1 with rfl | rfl | rfl | rfl
          all_goals go_wp2_with fail
          all_goals go_roundw
          case rel => exact ⟨j + 1, L, by go_num, hlt, hL4, HH.out.1, HH.out.2.1, HN.out⟩
          case rel => exact ⟨j + 1, L, by go_num, hlt, hL4, HH.out.1, HH.out.2.1, HN.out⟩
          case rel => exact ⟨j + 1, L, by go_num, hlt, hL4, HH.out.1, HH.out.2.1, HN.out⟩
          case rel => exact ⟨j + 1, L, by go_num, hlt, hL4, HH.out.1, HH.out.2.1, HN.out⟩
          all_goals (have e1 : (intOf (Value.int IntKind.i64 ((j : Int) + 1))).toNat = j + 1 := (by simp [intOf] <;> omega); have e2 : (intOf (Value.int IntKind.i64 (j : Int))).toNat = j := (by simp [intOf]); rw [e1, e2]; omega)
        | false =>
          obtain ⟨n1, n2, n3, n4⟩ := not_blank hbl
          rw [← hx] at n1 n2 n3 n4
          have m1 : (x == 32) = false := by rw [beq_eq_false_iff_ne]; exact n1
          have m2 : (x == 9) = false := by rw [beq_eq_false_iff_ne]; exact n2
          have m3 : (x == 10) = false := by rw [beq_eq_false_iff_ne]; exact n3
          have m4 : (x == 13) = false := by rw [beq_eq_false_iff_ne]; exact n4
          clear n1 n2 n3 n4 hx p5 hb
          have h2000' : s.size ≤ 2000 := by omega
          cases h1 : one (s.data.toList.drop j) with
          | err er rel =>
            have CO := Lib.hid (rone_any s j V hlt h2000')
            rw [h1] at CO
            rw [hd] at h1
            have her := (one_rel h1).1
            have HN := Lib.hid (show r = .err er (j + rel) by rw [HH.out.2.2, hd, lexL_err hbl h1]; rfl)
            clear h1 hd hbl HA
            go_wp2_with fail
            refine (CO.out).mono ?_
            rintro e X ⟨⟨a', b', c', d', rfl⟩, hbX⟩
            have BX := Lib.hid (HH.out.2.1.trans (hbX.mono HH.out.2.1.size))
            clear hbX CO
            have h5 : ((er : Int) == 0) = false := by rw [beq_eq_false_iff_ne]; rcases her with rfl | rfl <;> decide
            clear her
            go_wp2_with fail
            refine bodyPost_ret (v := .tuple #[.slice none 0 0, .int .i64 (er : Int), .int .i64 ((j : Int) + (rel : Int))]) (by simp [results, Tryd.results10, go_sem]) rfl ⟨⟨none, 0, ?_, ?_, by omega, ?_⟩, ?_⟩
            · rw [HN.out]; rfl
            · rw [HN.out]; exact Nat.le_refl _
            · rw [HN.out]; exact fun i hi => absurd hi (Nat.not_lt_zero _)
            · exact BX.out.trans (Below.mono (ext_alloc (ext_refl _) _) BX.out.size)
          | tok kd n st used =>
            have CO := Lib.hid (rone_any s j V hlt h2000')
            rw [h1] at CO
            have hu := one_used h1
            rw [List.length_drop, hsl] at hu
            rw [hd] at h1
            have hstep := lexL_tok hbl h1 j L.length
            have hdr : (b :: s.data.toList.drop (j + 1)).drop used = s.data.toList.drop (j + used) := by rw [← hd, List.drop_drop]
            rw [hdr, ← hd] at hstep
            by_cases h400 : L.length = 400
            · rw [if_pos h400] at hstep
              have HN := Lib.hid (show r = .err 5 j by rw [HH.out.2.2, hstep]; rfl)
              clear h1 hd hbl HA hstep hdr
              go_wp2_with fail
              refine (CO.out).mono ?_
              rintro e X ⟨rfl, hbX⟩
              have BX := Lib.hid (HH.out.2.1.trans (hbX.mono HH.out.2.1.size))
              clear hbX CO
              have h5 : ((L.length : Int) == 400) = true := by rw [h400]; rfl
              clear h400
              go_wp2_with fail
              refine bodyPost_ret (v := .tuple #[.slice none 0 0, .int .i64 5, .int .i64 (j : Int)]) (by simp [results, Tryd.results10, go_sem]) rfl ⟨⟨none, 0, ?_, ?_, by omega, ?_⟩, ?_⟩
              · rw [HN.out]; rfl
              · rw [HN.out]; exact Nat.le_refl _
              · rw [HN.out]; exact fun i hi => absurd hi (Nat.not_lt_zero _)
              · exact BX.out.trans (Below.mono (ext_alloc (ext_refl _) _) BX.out.size)
            · rw [if_neg h400] at hstep
              have HN := Lib.hid (show r = (lexL (s.data.toList.drop (j + used)) (j + used) (L ++ [(⟨kd, n, j, st⟩ : Tok)]).length).pre (L ++ [⟨kd, n, j, st⟩]) by rw [HH.out.2.2, hstep, push_pre, List.length_append]; rfl)
              clear h1 hd hbl HA hstep hdr
              go_wp2_with fail
              refine (CO.out).mono ?_
              rintro e X ⟨rfl, hbX⟩
              have hsX := (HH.out.2.1.trans (hbX.mono HH.out.2.1.size)).size
              have HO2 := HH.out.1.later hbX
              obtain ⟨st', hst'⟩ : ∃ st', st' = bsB st := ⟨_, rfl⟩
              obtain ⟨Y, hY⟩ : ∃ Y, Y = (X.alloc (.cells #[.int .i64 (kd : Int), .int .i64 (n : Int), .int .i64 (j : Int), .string (bsB st)] 31)).alloc (.cells #[.int .i64 (kd : Int), .int .i64 (n : Int), .int .i64 (j : Int), .string (bsB st)] 31) := ⟨_, rfl⟩
              have hbY : Below X.heap.size X Y := by rw [hY]; (repeat (first | exact ext_refl _ | assumption | (refine ext_alloc ?_ _) | (refine ext_drewN ?_ _) | refine ext_drew ?_ | (refine ext_set (by first | (simp; done) | (simp; omega)) _ ?_) | (refine ext_trans ?_ (by assumption))))
              have OO := Lib.hid (HO2.later hbY)
              have HE := Lib.hid (show Below w.heap.size w Y from (HH.out.2.1.trans (hbX.mono HH.out.2.1.size)).trans (hbY.mono hsX))
              have HR1 : Hid (ArrA 0 (X.heap.size + 1 + 1) (some ⟨X.heap.size + 1, 0, none⟩) 4 [(⟨kd, n, j, st⟩ : Tok)] (fun g o r => ∀ (k : Nat) u, (tokCell r)[k]? = some u → Y.cell? ⟨g, o + k, none⟩ = some u)) := Lib.hid (by rw [hY]; exact one_block tokCell_len _ _ _ rfl _ (by simp))
              have HXX := Lib.hid hY
              have h5 : ((L.length : Int) == 400) = false := by rw [beq_eq_false_iff_ne]; omega
              clear hbX CO hst' hY hbY HO2
              go_wp2_with (at_builtin; rw [← HXX.out]; refine wp_append_flat rfl _ _ 23 31 rfl Tryd.underlying23 _ 40 Tryd.infoTokR rfl (by omega) tokCell_len tokCell_one w.heap.size _ L rfl OO.out _ _ _ [(⟨kd, n, j, st⟩ : Tok)] rfl rfl 0 (X.heap.size + 1 + 1) HR1.out ?l1 ?l2 HE.out.size ?_)
              case l1 => unfold maxLen; simp; omega
              case l2 => show (L.length + 1) * 40 ≤ 140737488355328; omega
              intro v3 w3 O3 b3 o3
              obtain ⟨q3, c3, rfl, -⟩ := O3.arr tokCell_len
              have NX := Lib.hid (And.intro O3 (And.intro (HE.out.trans b3) HN.out))
              clear O3 b3 o3 OO HE HR1 HXX
              go_wp2_with fail
              go_roundw
              case rel => exact ⟨j + used, L ++ [⟨kd, n, j, st⟩], by go_num, by omega, by rw [List.length_append]; simp; omega, NX⟩
              case measure => simp [intOf] <;> omega
      · obtain rfl : j = s.size := by omega
        have HN := Lib.hid (show r = .ok L by rw [HH.out.2.2, List.drop_eq_nil_of_le (by rw [hsl]; omega)]; show Res.ok (L ++ []) = _; rw [List.append_nil])
        go_wp2_with fail
        refine bodyPost_ret (v := .tuple #[.slice q L.length c, .int .i64 0, .int .i64 0]) (by simp [results, Tryd.results10, go_sem]) rfl ⟨⟨q, c, ?_, ?_, hcm, ?_⟩, HH.out.2.1⟩
        · rw [HN.out]; rfl
        · rw [HN.out]; exact hlc
        · rw [HN.out]; exact HA.out

end Go.Proofs.YtejfjlbnehdgnaaDoor
