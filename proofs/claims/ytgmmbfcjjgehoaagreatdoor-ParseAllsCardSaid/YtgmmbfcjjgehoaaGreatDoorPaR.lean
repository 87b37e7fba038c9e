/- The developers' parser: need, where it falls; read. -/
import Derived.Test.YtgmmbfcjjgehoaaGreatDoorQaA
set_option linter.unusedSimpArgs false
set_option linter.unusedVariables false
namespace Go.Proofs.YtgmmbfcjjgehoaaGreatDoor
open Go.RowKit Go.Deep
set_option maxRecDepth 100000

/-- Four cells written anew. -/
theorem out4 (X : World) (g : Nat) (v0 v1 v2 v3 : Value) : Out (fun j => j = g) X ((((X.setCell ⟨g, 0, none⟩ v0).setCell ⟨g, 1, none⟩ v1).setCell ⟨g, 2, none⟩ v2).setCell ⟨g, 3, none⟩ v3) := ((((Out.refl _ X).trans (Out.set (S := fun j => j = g) ⟨g, 0, none⟩ v0 rfl)).trans (Out.set (S := fun j => j = g) ⟨g, 1, none⟩ v1 rfl)).trans (Out.set (S := fun j => j = g) ⟨g, 2, none⟩ v2 rfl)).trans (Out.set (S := fun j => j = g) ⟨g, 3, none⟩ v3 rfl)
set_option maxHeartbeats 2000000 in
theorem need_no (p z k : Nat) (l : List Tok) (s : Bs) (w : World) (h : PSt w p z l k) (hs : hSees s l = false) : Calls Tryz.prog 26 #[.pointer (some ⟨p, 0, none⟩), .string (bsB s)] w fun e w' => e = faultE 7 (hAt z l) ∧ PE w' p ∧ Out (fun j => j = p) w w' := by
  have b0 : Below w.heap.size w (w.alloc (.cells zTok.toArray 62)) := ext_alloc (ext_refl _) _
  have HP := Lib.hid (h.below b0)
  have H := Lib.hid (look_any p z k l _ HP.out)
  have HS := Lib.hid hs
  have B0 := Lib.hid b0
  obtain ⟨⟨kd, n, a, st⟩, ht⟩ : ∃ t, t = hd z l := ⟨_, rfl⟩
  rw [← ht] at H
  clear h b0 hs ht
  go_enter Tryz.func26, Tryz.ntmps26
  go_wp2_with fail
  refine H.out.mono ?_
  rintro e V ⟨rfl, hb⟩
  have BV := Lib.hid (B0.out.trans (hb.mono B0.out.size))
  have b1 : Below V.heap.size V (V.alloc (.cells #[.int .i64 (kd : Int), .int .i64 (n : Int), .int .i64 (a : Int), .string (bsB st)] 62)) := ext_alloc (ext_refl _) _
  have HP1 := Lib.hid ((HP.out.below hb).below b1)
  have T := Lib.hid (take_no p z k l s _ HP1.out HS.out)
  have B1 := Lib.hid (BV.out.trans (b1.mono BV.out.size))
  clear hb b1
  go_wp2_with fail
  refine T.out.mono ?_
  rintro e X ⟨rfl, hb⟩
  have HPX := Lib.hid (HP1.out.below hb)
  have BX := Lib.hid (B1.out.trans (hb.mono B1.out.size))
  clear hb
  go_wp2_with fail
  refine (wrong_any p z k l 7 X HPX.out).mono ?_
  rintro e Y ⟨rfl, hb⟩
  go_wp2_with fail
  exact ⟨rfl, rfl, (HPX.out.below hb).pe, (Out.of BX.out).trans (Out.of hb)⟩

set_option maxHeartbeats 2000000 in
theorem read_no (p z k : Nat) (l : List Tok) (kind : Nat) (w : World) (h : PSt w p z l k) (hs : (hd z l).kd ≠ kind) : Calls Tryz.prog 59 #[.pointer (some ⟨p, 0, none⟩), .int .i64 (kind : Int)] w fun e w' => e = faultE 7 (hAt z l) ∧ PE w' p ∧ Out (fun j => j = p) w w' := by
  have b0 : Below w.heap.size w (w.alloc (.cells zTok.toArray 62)) := ext_alloc (ext_refl _) _
  have HP := Lib.hid (h.below b0)
  have H := Lib.hid (look_any p z k l _ HP.out)
  have B0 := Lib.hid b0
  obtain ⟨⟨kd, n, a, st⟩, ht⟩ : ∃ t, t = hd z l := ⟨_, rfl⟩
  rw [← ht] at H hs
  have hne : ((kd : Int) != (kind : Int)) = true := by rw [bne_iff_ne]; simp only at hs; omega
  clear h b0 hs ht
  go_enter Tryz.func59, Tryz.ntmps59
  go_wp2_with fail
  refine H.out.mono ?_
  rintro e V ⟨rfl, hb⟩
  have BV := Lib.hid (B0.out.trans (hb.mono B0.out.size))
  have b1 : Below V.heap.size V (V.alloc (.cells #[.int .i64 (kd : Int), .int .i64 (n : Int), .int .i64 (a : Int), .string (bsB st)] 62)) := ext_alloc (ext_refl _) _
  have HP1 := Lib.hid ((HP.out.below hb).below b1)
  have B1 := Lib.hid (BV.out.trans (b1.mono BV.out.size))
  clear hb b1
  go_wp2_with fail
  refine (wrong_any p z k l 7 _ HP1.out).mono ?_
  rintro e Y ⟨rfl, hb⟩
  go_wp2_with fail
  exact ⟨rfl, rfl, (HP1.out.below hb).pe, (Out.of B1.out).trans (Out.of hb)⟩

set_option maxHeartbeats 2000000 in
theorem read_yes (p z k : Nat) (t : Tok) (r : List Tok) (kind : Nat) (w : World) (h : PSt w p z (t :: r) k) (hs : t.kd = kind) : Calls Tryz.prog 59 #[.pointer (some ⟨p, 0, none⟩), .int .i64 (kind : Int)] w fun e w' => e = .returned (Value.agg #[.int .i64 (t.kd : Int), .int .i64 (t.n : Int), .int .i64 (t.at_ : Int), .string (bsB t.s)]) ∧ PSt w' p z r k ∧ Out (fun j => j = p) w w' := by
  have b0 : Below w.heap.size w (w.alloc (.cells zTok.toArray 62)) := ext_alloc (ext_refl _) _
  have lp := h.lt
  have HP := Lib.hid (h.below b0)
  have H := Lib.hid (look_any p z k (t :: r) _ HP.out)
  have B0 := Lib.hid b0
  have N := Lib.hid (BkA.new w zTok 62)
  obtain ⟨kd, n, a, st⟩ := t
  simp only at hs
  subst hs
  have hne : ((kd : Int) != (kd : Int)) = false := by simp
  simp only [hd] at H
  clear h b0
  go_enter Tryz.func59, Tryz.ntmps59
  go_wp2_with fail
  refine H.out.mono ?_
  rintro e V ⟨rfl, hb⟩
  have BV := Lib.hid hb
  have b1 : Below V.heap.size V (V.alloc (.cells #[.int .i64 (kd : Int), .int .i64 (n : Int), .int .i64 (a : Int), .string (bsB st)] 62)) := ext_alloc (ext_refl _) _
  have q1 := BkA.new V [.int .i64 (kd : Int), .int .i64 (n : Int), .int .i64 (a : Int), .string (bsB st)] 62
  have NV := Lib.hid ((N.out.on hb).on b1)
  obtain ⟨U, hU⟩ : ∃ U, U = V.alloc (.cells #[.int .i64 (kd : Int), .int .i64 (n : Int), .int .i64 (a : Int), .string (bsB st)] 62) := ⟨_, rfl⟩
  have HPU := (HP.out.below hb).below b1
  rw [← hU] at b1 q1 HPU NV
  have hgV : w.heap.size < V.heap.size := Nat.lt_of_lt_of_le N.out.lt hb.size
  have B1 := Lib.hid b1
  have HU := Lib.hid hU
  obtain ⟨g, off, c, h1, h2, h3, h4⟩ := HPU.tail_
  have H4 := Lib.hid h4
  have fz := HPU.fz
  have lpU := HPU.lt
  have d0 := q1.c 0 _ rfl
  have d1 := q1.c 1 _ rfl
  have d2 := q1.c 2 _ rfl
  have d3 := q1.c 3 _ rfl
  have c0 := NV.out.c 0 _ rfl
  have c1 := NV.out.c 1 _ rfl
  have c2 := NV.out.c 2 _ rfl
  have c3 := NV.out.c 3 _ rfl
  have fzr := NV.out.fz
  have ltr := NV.out.lt
  have ltq := q1.lt
  obtain ⟨m, hm⟩ : ∃ m, m = r.length + 1 := ⟨_, rfl⟩
  have hc1 : ¬ c = 1 := by omega
  rw [← hm] at h1 h2 H4
  have hpV : ¬ V.heap.size = p := by have := HP.out.lt; have := hb.size; omega
  have hpw : ¬ w.heap.size = p := by omega
  have hpV' : ¬ p = V.heap.size := fun e => hpV e.symm
  have hpw' : ¬ p = w.heap.size := fun e => hpw e.symm
  have hwV : ¬ w.heap.size = V.heap.size := by omega
  have hwV' : ¬ V.heap.size = w.heap.size := by omega
  clear hb b1 q1 HPU h4 hm hU H
  go_upto_region 4 with fail
  rw [← HU.out]
  clear HU
  go_wp2_with fail
  have o := out4 (U.setCell ⟨p, 0, none⟩ (.slice (some ⟨g, off + 4, none⟩) m (c - 1))) w.heap.size (.int .i64 (kd : Int)) (.int .i64 (n : Int)) (.int .i64 (a : Int)) (.string (bsB st))
  refine bodyPost_ret (v := .agg #[.int .i64 (kd : Int), .int .i64 (n : Int), .int .i64 (a : Int), .string (bsB st)]) (by simp [results, Tryz.results59, go_sem, c0, c1, c2, c3, hpw, hpw']) rfl ⟨rfl, H4.out.outs o (fun j hj => by omega), Out.down ?_⟩
  have h1 := Out.of (S := fun j => j = p ∨ w.heap.size ≤ j) B0.out
  have h2 := Out.of (S := fun j => j = p ∨ w.heap.size ≤ j) BV.out
  have h3 := Out.of (S := fun j => j = p ∨ w.heap.size ≤ j) B1.out
  exact ((h1.trans (h2.trans h3)).trans (Out.set ⟨p, 0, none⟩ _ (.inl rfl))).trans (o.mono fun j _ hj => .inr (by omega))

end Go.Proofs.YtgmmbfcjjgehoaaGreatDoor
