/- A part of the proof. -/
import Derived.Test.YtklgoajgchfmeaaGreatDoorSnD
import Derived.Test.YtklgoajgchfmeaaGreatDoorKj
import Derived.Sort.OwnSorted
import Derived.Shelf.Strconv.AppendIntPublic10
import Derived.Ground.NamesProg
import Derived.Shelf.SlIter.Nil
import Derived.Shelf.SortM.Plain
import Derived.Shelf.SortM.SortNone
import Derived.Ground.GgzProg
import Derived.Ground.SlgmProg
import Derived.Test.YtklgoajgchfmeaaGreatDoorProg
set_option linter.unusedVariables false
set_option linter.unusedSimpArgs false
namespace Go.Proofs.YtklgoajgchfmeaaGreatDoor
open Go.RowKit Go.Maps Go.ChangeShapes Go.Deep
set_option maxRecDepth 100000
def exN : Ex := .mk 0 zeroVal 0 0 0 ⟨#[]⟩ []
def normR (x : Ex) : Ex := if rightE x = true then x.norm else exN
def errR (x : Ex) : Int := if rightE x = true then 0 else 1
theorem exN_in (w : World) (P : Nat → Prop) : ExMP w P exN rawZ.cells := by
  refine ExMP.iff.2 ⟨⟨by decide, by decide, by decide⟩, none, 0, rfl, Nat.le_refl _, ?_⟩
  rw [ExLP]
  trivial
set_option maxHeartbeats 8000000 in
theorem dnormal_any (x : Ex) (cs : List Value) (w : World) (hx : ExM w x cs) (hG : GE w) : Calls Tryz.prog 5 #[.agg cs.toArray] w fun e w' => (∃ r : RawE, e = .returned (.tuple #[.agg r.cells.toArray, .int .i64 (errR x)]) ∧ ExMP w' (fun g => w.heap.size ≤ g) (normR x) r.cells) ∧ Below w.heap.size w w' := by
  have HX := Lib.hid hx
  have HG := Lib.hid hG
  obtain ⟨op, v, rel, col, n, s, l⟩ := x
  rw [ExM.iff] at hx
  obtain ⟨-, q, c, rfl, -, -⟩ := hx
  obtain ⟨len, hlen⟩ : ∃ len, len = l.length := ⟨_, rfl⟩
  rw [← hlen] at HX ⊢
  clear hlen
  obtain ⟨W1, hW1⟩ : ∃ W, W = w.alloc (.cells (exCells op v rel col n s q len c).toArray 26) := ⟨_, rfl⟩
  have E0 : XB W1 w.heap.size ⟨op, v, rel, col, n, s, q, len, c⟩ := by rw [hW1]; exact XB.new w ⟨op, v, rel, col, n, s, q, len, c⟩ _
  have z1 : W1.heap.size = w.heap.size + 1 := by rw [hW1]; simp
  obtain ⟨W, hW⟩ : ∃ W, W = W1.alloc (.cells rawZ.cells.toArray 26) := ⟨_, rfl⟩
  have b1 : Below W1.heap.size W1 W := by rw [hW]; (repeat (first | exact ext_refl _ | assumption | (refine ext_alloc ?_ _) | (refine ext_drewN ?_ _) | refine ext_drew ?_ | (refine ext_set (by first | (simp; done) | (simp; omega)) _ ?_) | (refine ext_trans ?_ (by assumption))))
  have E1 := E0.on b1
  have E2 : XB W (w.heap.size + 1) rawZ := by rw [hW, ← z1]; exact XB.new W1 rawZ _
  have b : Below w.heap.size w W := by rw [hW, hW1]; (repeat (first | exact ext_refl _ | assumption | (refine ext_alloc ?_ _) | (refine ext_drewN ?_ _) | refine ext_drew ?_ | (refine ext_set (by first | (simp; done) | (simp; omega)) _ ?_) | (refine ext_trans ?_ (by assumption))))
  have HWW := Lib.hid (show W = (w.alloc (.cells (exCells op v rel col n s q len c).toArray 26)).alloc (.cells rawZ.cells.toArray 26) by rw [hW, hW1])
  clear hW hW1 E0 z1 b1
  go_enter Tryz.func5, Tryz.ntmps5
  go_upto_region 1 with fail
  change Code.wp _ _ _ _ ((w.alloc (.cells (exCells op v rel col n s q len c).toArray 26)).alloc (.cells rawZ.cells.toArray 26))
  rw [← HWW.out]
  clear HWW
  obtain ⟨g, hg⟩ : ∃ g, g = w.heap.size := ⟨_, rfl⟩
  have HGW := Lib.hid hg
  rw [← hg] at E1 E2 ⊢
  have HB := Lib.hid b
  have HE1 := Lib.hid E1
  have HE2 := Lib.hid E2
  clear hg b E2
  obtain ⟨lt, cc, -⟩ := E1
  have c0 := cc 0 _ rfl
  have c1 := cc 1 _ rfl
  have c2 := cc 2 _ rfl
  have c3 := cc 3 _ rfl
  have c4 := cc 4 _ rfl
  have c5 := cc 5 _ rfl
  have c6 := cc 6 _ rfl
  have c7 := cc 7 _ rfl
  have c8 := cc 8 _ rfl
  simp only at c0 c1 c2 c3 c4 c5 c6 c7 c8
  clear cc
  go_wp2_with fail
  refine (dright_any _ _ W (ExM.ext HB.out _ _ HX.out) (HG.out.on HB.out)).mono ?_
  rintro e X ⟨rfl, hbX⟩
  have HBX := Lib.hid (HB.out.trans (hbX.mono HB.out.size))
  have HE1X := HE1.out.on hbX
  have HE2X := Lib.hid (HE2.out.on hbX)
  clear hbX lt c0 c1 c2 c3 c4 c5 c6 c7 c8 HE1 HE2
  cases hs : rightE (.mk op v rel col n s l) with
  | false =>
    have HN := Lib.hid (show normR (.mk op v rel col n s l) = exN by unfold normR; rw [if_neg (by rw [hs]; decide)])
    have HR := Lib.hid (show errR (.mk op v rel col n s l) = 1 by unfold errR; rw [if_neg (by rw [hs]; decide)])
    clear hs HE1X
    obtain ⟨ltR, cR, fR⟩ := HE2X.out
    have d0 := cR 0 _ rfl
    have d1 := cR 1 _ rfl
    have d2 := cR 2 _ rfl
    have d3 := cR 3 _ rfl
    have d4 := cR 4 _ rfl
    have d5 := cR 5 _ rfl
    have d6 := cR 6 _ rfl
    have d7 := cR 7 _ rfl
    have d8 := cR 8 _ rfl
    clear cR
    go_wp2_with fail
    change bodyPost _ _ _ _ _ (setE X (g + 1) 0 rawZ)
    have hO := setE_out X (g + 1) 0 rawZ
    have hX2 := XB.setAll HE2X.out rawZ
    obtain ⟨Q, hQQ⟩ : ∃ Q, Q = setE X (g + 1) 0 rawZ := ⟨_, rfl⟩
    rw [← hQQ] at hO hX2
    rw [← hQQ]
    obtain ⟨-, cQ, -⟩ := hX2
    have q0 := cQ 0 _ rfl
    have q1 := cQ 1 _ rfl
    have q2 := cQ 2 _ rfl
    have q3 := cQ 3 _ rfl
    have q4 := cQ 4 _ rfl
    have q5 := cQ 5 _ rfl
    have q6 := cQ 6 _ rfl
    have q7 := cQ 7 _ rfl
    have q8 := cQ 8 _ rfl
    clear hQQ cQ
    refine bodyPost_ret (v := .tuple #[.agg rawZ.cells.toArray, .int .i64 1]) (by simp [results, Tryz.results5, go_sem, q0, q1, q2, q3, q4, q5, q6, q7, q8]) rfl ⟨⟨rawZ, by rw [HR.out], ?_⟩, ?_⟩
    · rw [HN.out]
      exact exN_in _ _
    · have h1 := HBX.out
      exact h1.trans (hO.below h1.size (fun k hk => by rw [hk]; have := HGW.out; omega))
  | true =>
    have HN := Lib.hid (show normR (.mk op v rel col n s l) = (Ex.mk op v rel col n s l).norm by unfold normR; rw [if_pos hs])
    have HR := Lib.hid (show errR (.mk op v rel col n s l) = 0 by unfold errR; rw [if_pos hs])
    have HM := Lib.hid (normC_any _ (.mk op v rel col n s l) (Nat.le_refl _) (right_iff8.1 hs).1 X _ (ExM.ext HBX.out _ _ HX.out) (HG.out.on HBX.out) hs)
    clear hs
    obtain ⟨lt, cc, -⟩ := HE1X
    have c0 := cc 0 _ rfl
    have c1 := cc 1 _ rfl
    have c2 := cc 2 _ rfl
    have c3 := cc 3 _ rfl
    have c4 := cc 4 _ rfl
    have c5 := cc 5 _ rfl
    have c6 := cc 6 _ rfl
    have c7 := cc 7 _ rfl
    have c8 := cc 8 _ rfl
    simp only at c0 c1 c2 c3 c4 c5 c6 c7 c8
    clear cc
    go_wp2_with fail
    refine HM.out.mono ?_
    rintro e Y ⟨⟨cs', rfl, hP⟩, hbY⟩
    have HP := Lib.hid hP
    have HBY := Lib.hid (HBX.out.trans (hbY.mono HBX.out.size))
    have HE2Y := Lib.hid (HE2X.out.on hbY)
    obtain ⟨r', rfl⟩ := hP.raw
    have HXS := Lib.hid HE2X.out.lt
    clear hP hbY HE2X lt c0 c1 c2 c3 c4 c5 c6 c7 c8 HM
    obtain ⟨op2, ⟨vk2, vn2, vs2⟩, rel2, col2, n2, s2, qz2, len2, cz2⟩ := r'
    obtain ⟨ltR, cR, fR⟩ := HE2Y.out
    have d0 := cR 0 _ rfl
    have d1 := cR 1 _ rfl
    have d2 := cR 2 _ rfl
    have d3 := cR 3 _ rfl
    have d4 := cR 4 _ rfl
    have d5 := cR 5 _ rfl
    have d6 := cR 6 _ rfl
    have d7 := cR 7 _ rfl
    have d8 := cR 8 _ rfl
    clear cR
    go_wp2_with fail
    change bodyPost _ _ _ _ _ (setE Y (g + 1) 0 ⟨op2, ⟨vk2, vn2, vs2⟩, rel2, col2, n2, s2, qz2, len2, cz2⟩)
    have hO := setE_out Y (g + 1) 0 ⟨op2, ⟨vk2, vn2, vs2⟩, rel2, col2, n2, s2, qz2, len2, cz2⟩
    have hX2 := XB.setAll HE2Y.out ⟨op2, ⟨vk2, vn2, vs2⟩, rel2, col2, n2, s2, qz2, len2, cz2⟩
    obtain ⟨Q, hQQ⟩ : ∃ Q, Q = setE Y (g + 1) 0 ⟨op2, ⟨vk2, vn2, vs2⟩, rel2, col2, n2, s2, qz2, len2, cz2⟩ := ⟨_, rfl⟩
    rw [← hQQ] at hO hX2
    rw [← hQQ]
    obtain ⟨-, cQ, -⟩ := hX2
    have q0 := cQ 0 _ rfl
    have q1 := cQ 1 _ rfl
    have q2 := cQ 2 _ rfl
    have q3 := cQ 3 _ rfl
    have q4 := cQ 4 _ rfl
    have q5 := cQ 5 _ rfl
    have q6 := cQ 6 _ rfl
    have q7 := cQ 7 _ rfl
    have q8 := cQ 8 _ rfl
    clear hQQ cQ
    simp only at q0 q1 q2 q3 q4 q5 q6 q7 q8
    refine bodyPost_ret (v := .tuple #[.agg (RawE.cells ⟨op2, ⟨vk2, vn2, vs2⟩, rel2, col2, n2, s2, qz2, len2, cz2⟩).toArray, .int .i64 0]) (by simp [results, Tryz.results5, go_sem, q0, q1, q2, q3, q4, q5, q6, q7, q8]) rfl ⟨⟨⟨op2, ⟨vk2, vn2, vs2⟩, rel2, col2, n2, s2, qz2, len2, cz2⟩, by rw [HR.out], ?_⟩, ?_⟩
    · rw [HN.out]
      refine ExMP.on hO.size (fun k hk hkw => hO.block k hkw (fun e => ?_)) (fun k hk _ => ?_) _ _ HP.out
      · have h2 : X.heap.size ≤ k := hk
        have h3 := HXS.out
        have e : k = g + 1 := e
        omega
      · have h2 : X.heap.size ≤ k := hk
        exact Nat.le_trans HBX.out.size h2
    · have h1 := HBY.out
      exact h1.trans (hO.below h1.size (fun k hk => by rw [hk]; have := HGW.out; omega))
open Go.RowKit Go.Maps Go.ChangeShapes Go.Deep
set_option maxRecDepth 100000
def rawX (v : Value) : Option (DataW Value × List MemPlace) := some (.held v, [])
theorem key_ofX (s : ByteArray) (h : s.size ≤ 140737488355328) : keyOf Tryz.prog 9 (.string s) = some (.string s.data.toList) := Go.WideMaps.keyOf_string_mk Tryz.underlying9 (by unfold maxLen; omega)
structure MapX (w : World) (m n b : Nat) (L : List Ex) : Prop where
  ok : ∀ x ∈ L, rightE x = true
  own : ∃ D : DataW Value, w.ownsMap Tryz.prog 9 rawX m n D ∧ (∀ t, Maps.has D (.string t) = true ↔ ∃ x ∈ L, x.print = t) ∧
    ∀ x ∈ L, ∃ r : RawE, (∀ z, D.atKey (.string x.print) z = .held (.agg r.cells.toArray)) ∧ ExMP w (fun k => b ≤ k ∧ k ≠ m) x r.cells
theorem MapX.outs {S : Nat → Prop} {w w' : World} {m n b : Nat} {L : List Ex} (h : MapX w m n b L) (o : Out S w w') (hm : ¬ S m) (hS : ∀ k, S k → ¬ b ≤ k) : MapX w' m n b L := by
  obtain ⟨ok, D, hown, h1, h2⟩ := h
  have hl := hown.lt
  obtain ⟨es, clock, hb, hr⟩ := hown
  refine ⟨ok, D, ⟨es, clock, by rw [o.block m hl hm]; exact hb, hr⟩, h1, fun x hx => ?_⟩
  obtain ⟨r, h3, h4⟩ := h2 x hx
  exact ⟨r, h3, ExMP.on o.size (fun k hk hkw => o.block k hkw fun e => hS k e hk.1) (fun _ h _ => h) _ _ h4⟩
theorem MapX.below {w w' : World} {m n b : Nat} {L : List Ex} (h : MapX w m n b L) (hb : Below w.heap.size w w') : MapX w' m n b L := h.outs (Out.of (S := fun _ => False) hb) (fun h => h) (fun _ h => h.elim)
theorem MapX.lt {w : World} {m n b : Nat} {L : List Ex} (h : MapX w m n b L) : m < w.heap.size := by obtain ⟨-, D, hown, -⟩ := h; exact hown.lt
theorem str_keyX (t : List UInt8) : WideAt.IsKeyLit (.string t) := trivial
theorem MapX.put {w w1 : World} {m n b : Nat} {L : List Ex} {y : Ex} {r : RawE} {D : DataW Value} (ok : ∀ x ∈ L, rightE x = true) (h1 : ∀ t, Maps.has D (.string t) = true ↔ ∃ x ∈ L, x.print = t)
    (h2 : ∀ x ∈ L, ∃ r : RawE, (∀ z, D.atKey (.string x.print) z = .held (.agg r.cells.toArray)) ∧ ExMP w (fun k => b ≤ k ∧ k ≠ m) x r.cells) (hD : IsMap D)
    (hy : rightE y = true) (hr : ExMP w (fun k => b ≤ k ∧ k ≠ m) y r.cells) (hown : w1.ownsMap Tryz.prog 9 rawX m (n + 1) (D.put (.string y.print) (.held (.agg r.cells.toArray)))) (hg : w.grownBy w1 (some m)) : MapX w1 m (n + 1) b (L ++ [y]) := by
  have hP : ∀ (x : Ex) (cs : List Value), ExMP w (fun k => b ≤ k ∧ k ≠ m) x cs → ExMP w1 (fun k => b ≤ k ∧ k ≠ m) x cs := fun x cs hx => ExMP.on hg.size (fun k hk hkw => hg.block k hkw (fun e => hk.2 (by simpa using e))) (fun _ h _ => h) x cs hx
  refine ⟨fun x hx => ?_, _, hown, fun t => ?_, fun x hx => ?_⟩
  · rcases List.mem_append.1 hx with hx | hx
    · exact ok x hx
    · rw [List.mem_singleton] at hx; rw [hx]; exact hy
  · by_cases e : t = y.print
    · subst e
      rw [has_put_same hD (str_keyX _)]
      exact ⟨fun _ => ⟨y, by simp, rfl⟩, fun _ => rfl⟩
    · rw [has_put_other (fun h => e (by simpa using h)), h1]
      constructor
      · rintro ⟨x, hx, hp⟩; exact ⟨x, by simp [hx], hp⟩
      · rintro ⟨x, hx, hp⟩
        rcases List.mem_append.1 hx with hx | hx
        · exact ⟨x, hx, hp⟩
        · rw [List.mem_singleton] at hx; subst hx; exact absurd hp.symm e
  · by_cases e : x.print = y.print
    · have hxo : rightE x = true := by
        rcases List.mem_append.1 hx with hx | hx
        · exact ok x hx
        · rw [List.mem_singleton] at hx; rw [hx]; exact hy
      obtain rfl := print_inj (right_iff8.1 hxo).1 (right_iff8.1 hy).1 e
      exact ⟨r, fun z => atKey_put_same hD (str_keyX _) _ _, hP _ _ hr⟩
    · have hxL : x ∈ L := by
        rcases List.mem_append.1 hx with hx | hx
        · exact hx
        · rw [List.mem_singleton] at hx; rw [hx] at e; exact absurd rfl e
      obtain ⟨r', h3, h4⟩ := h2 x hxL
      exact ⟨r', fun z => by rw [atKey_put_other (fun h => e (by simpa using h))]; exact h3 z, hP _ _ h4⟩
theorem MapX.made (w : World) (b : Nat) : MapX (w.alloc (.map #[] 0)) w.heap.size 0 b [] :=
  ⟨fun x hx => (by cases hx), DataW.map [], World.ownsMap_made w Tryz.prog 9 rawX, fun t => ⟨fun h => (by cases h), fun ⟨x, hx, _⟩ => (by cases hx)⟩, fun x hx => (by cases hx)⟩
theorem print_size {x : Ex} {w : World} {cs : List Value} (h : ExM w x cs) (hr : rightE x = true) : (bsB x.print).size ≤ 20300 := by
  obtain ⟨h1, -, h3⟩ := right_iff8.1 hr
  have := print_len x cs h h1
  show x.print.length ≤ _
  omega
set_option maxHeartbeats 16000000 in
theorem normals_any (L : List Ex) (q : Option Addr) (c : Nat) (w : World) (hL : ExL w q 0 L) (hn : L.length * 104 ≤ 140737488355328) (hG : GE w) :
    Calls Tryz.prog 20 #[.slice q L.length c] w fun e w' => ((L.all rightE = true ∧ ∃ m, e = .returned (.tuple #[.map (some m), .int .i64 0]) ∧ w.heap.size ≤ m ∧ MapX w' m L.length w.heap.size (L.map Ex.norm)) ∨ (L.all rightE = false ∧ e = .returned (.tuple #[.map none, .int .i64 1]))) ∧ Below w.heap.size w w' := by
  have HL := Lib.hid hL
  have HG := Lib.hid hG
  obtain ⟨len, hlen⟩ : ∃ len, len = L.length := ⟨_, rfl⟩
  rw [← hlen] at hn ⊢
  have HLEN := Lib.hid hlen
  clear hL hG hlen
  have hmm := @run_makeMap Tryz.prog
  go_enter Tryz.func20, Tryz.ntmps20
  go_wp2_with fail
  have HM0 := Lib.hid (MapX.made w w.heap.size)
  have HB0 := Lib.hid (show Below w.heap.size w (w.alloc (.map #[] 0)) from ext_alloc (ext_refl _) _)
  obtain ⟨m, hm⟩ : ∃ m, m = w.heap.size := ⟨_, rfl⟩
  have HMW := Lib.hid hm
  rw [← hm] at HM0 ⊢
  generalize w.alloc (.map #[] 0) = W0 at HM0 HB0 ⊢
  clear hm hmm
  go_loopw [12] (fun v12 wr => ∃ i : Nat, v12 = .int .i64 i ∧ i ≤ len ∧ Hid (MapX wr m i m ((L.take i).map Ex.norm) ∧ Below w.heap.size w wr ∧ (L.take i).all rightE = true)) (fun v12 _ => ((len : Int) - intOf v12).toNat)
  case atStart => exact ⟨0, rfl, Nat.zero_le _, HM0.out, HB0.out, rfl⟩
  case round =>
    obtain ⟨i, rfl, hi, HH⟩ := hrel
    obtain ⟨V, hV⟩ : ∃ V, V = wr := ⟨_, rfl⟩
    rw [← hV] at HH
    rw [← hV]
    clear hV
    have HM := Lib.hid HH.out.1
    have HB := Lib.hid HH.out.2.1
    have HA := Lib.hid HH.out.2.2
    clear HH HM0 HB0
    by_cases hlt : i < len
    · obtain ⟨y, hy⟩ : ∃ y, L[i]? = some y := ⟨_, List.getElem?_eq_getElem (by rw [← HLEN.out]; exact hlt)⟩
      have hl_ := ExL.at_ (ExL.ext HB.out _ _ _ HL.out) hy
      obtain ⟨g0, off0, cs0, hq0, hg0, hx0, hcell⟩ := hl_
      subst hq0
      have HX0 := Lib.hid hx0
      have HT := Lib.hid (show (L.take (i + 1)).map Ex.norm = (L.take i).map Ex.norm ++ [y.norm] by rw [take_snoc hy, List.map_append]; rfl)
      have HTA := Lib.hid (show (L.take (i + 1)).all rightE = rightE y by rw [take_snoc hy, List.all_append, HA.out]; simp)
      have HYM := Lib.hid (List.mem_of_getElem? hy)
      clear hy
      obtain ⟨op1, v1, rel1, col1, n1, s1, l1⟩ := y
      rw [ExM.iff] at hx0
      obtain ⟨-, qq0, cc0, rfl, -, -⟩ := hx0
      have f0 := hcell 0 _ rfl
      have f1 := hcell 1 _ rfl
      have f2 := hcell 2 _ rfl
      have f3 := hcell 3 _ rfl
      have f4 := hcell 4 _ rfl
      have f5 := hcell 5 _ rfl
      have f6 := hcell 6 _ rfl
      have f7 := hcell 7 _ rfl
      have f8 := hcell 8 _ rfl
      simp only [Nat.zero_add, Nat.add_zero] at f0 f1 f2 f3 f4 f5 f6 f7 f8
      clear hcell
      go_wp2_with fail
      have B1 : Below V.heap.size V (V.alloc (.cells (exCells op1 v1 rel1 col1 n1 s1 qq0 l1.length cc0).toArray 26)) := ext_alloc (ext_refl _) _
      have HNR := Lib.hid (dnormal_any _ _ (V.alloc (.cells (exCells op1 v1 rel1 col1 n1 s1 qq0 l1.length cc0).toArray 26)) (ExM.ext B1 _ _ HX0.out) (HG.out.on (HB.out.trans (B1.mono HB.out.size))))
      have HB1 := Lib.hid B1
      clear B1 f0 f1 f2 f3 f4 f5 f6 f7 f8
      refine HNR.out.mono ?_
      rintro e X ⟨⟨r', rfl, hP⟩, hbX⟩
      have HBX := Lib.hid (HB1.out.trans (hbX.mono HB1.out.size))
      have HP := Lib.hid (show ExMP X (fun k => m ≤ k ∧ k ≠ m) (normR (.mk op1 v1 rel1 col1 n1 s1 l1)) r'.cells from ExMP.on (Nat.le_refl _) (fun _ _ _ => rfl) (fun k hk _ => by
        have h1 := HM.out.lt
        have h2 := HB1.out.size
        have hk : _ ≤ k := hk
        omega) _ _ hP)
      clear hP hbX HNR HX0 HB1
      obtain ⟨opz, ⟨vkz, vnz, vsz⟩, relz, colz, nz, sz, qz, lenz, cz⟩ := r'
      cases hs : rightE (.mk op1 v1 rel1 col1 n1 s1 l1) with
      | false =>
        have HR := Lib.hid (show errR (.mk op1 v1 rel1 col1 n1 s1 l1) = 1 by unfold errR; rw [if_neg (by rw [hs]; decide)])
        have HF := Lib.hid (show L.all rightE = false by rw [Bool.eq_false_iff]; intro h; have := List.all_eq_true.1 h _ HYM.out; rw [hs] at this; cases this)
        rw [HR.out]
        clear hs HP
        go_wp2_with fail
        refine bodyPost_ret (v := .tuple #[.map none, .int .i64 1]) (by simp [results, Tryz.results20, go_sem]) rfl ⟨.inr ⟨HF.out, rfl⟩, ?_⟩
        exact (HB.out.trans (HBX.out.mono HB.out.size)).trans ((ext_alloc (ext_refl _) _).mono (Nat.le_trans HB.out.size HBX.out.size))
      | true =>
        have HR := Lib.hid (show errR (.mk op1 v1 rel1 col1 n1 s1 l1) = 0 by unfold errR; rw [if_pos hs])
        have HN := Lib.hid (show normR (.mk op1 v1 rel1 col1 n1 s1 l1) = (Ex.mk op1 v1 rel1 col1 n1 s1 l1).norm by unfold normR; rw [if_pos hs])
        have HRN := Lib.hid (show rightE (Ex.mk op1 v1 rel1 col1 n1 s1 l1).norm = true by rw [norm_right]; exact hs)
        rw [HN.out] at HP
        rw [hs] at HTA
        rw [HR.out]
        clear hs HN HR HYM
        generalize hS : (Ex.mk op1 v1 rel1 col1 n1 s1 l1).norm = S at HP HRN HT
        clear hS
        go_upto_region 8 with fail
        have KX := XB.new X ⟨opz, ⟨vkz, vnz, vsz⟩, relz, colz, nz, sz, qz, lenz, cz⟩ 26
        have BN : Below X.heap.size X (X.alloc (.cells (exCells opz ⟨vkz, vnz, vsz⟩ relz colz nz sz qz lenz cz).toArray 26)) := ext_alloc (ext_refl _) _
        obtain ⟨N, hN⟩ : ∃ N, N = X.alloc (.cells (exCells opz ⟨vkz, vnz, vsz⟩ relz colz nz sz qz lenz cz).toArray 26) := ⟨_, rfl⟩
        change Code.wp _ _ _ _ (X.alloc (.cells (exCells opz ⟨vkz, vnz, vsz⟩ relz colz nz sz qz lenz cz).toArray 26))
        change XB (X.alloc (.cells (exCells opz ⟨vkz, vnz, vsz⟩ relz colz nz sz qz lenz cz).toArray 26)) _ _ at KX
        rw [← hN] at KX BN ⊢
        clear hN
        obtain ⟨gx, hgx⟩ : ∃ g, g = X.heap.size := ⟨_, rfl⟩
        rw [← hgx] at KX ⊢
        clear hgx
        have HPN := Lib.hid (HP.out.below BN)
        have HBN := Lib.hid (HBX.out.trans (BN.mono HBX.out.size))
        have HGN := Lib.hid (HG.out.on (HB.out.trans (HBN.out.mono HB.out.size)))
        have hM := HM.out.below HBN.out
        have HOK := Lib.hid hM.ok
        obtain ⟨D, hown, hD1, hD2⟩ := hM.own
        have HOW := Lib.hid hown
        have HD1 := Lib.hid hD1
        have HD2 := Lib.hid hD2
        have HSZ := Lib.hid (print_size (ExMP.toM _ _ HPN.out) HRN.out)
        have HT1 := Lib.hid (fun (x : After N) => calls_after (text_any S _ x.W (ExM.ext x.below _ _ (ExMP.toM _ _ HPN.out)) (HGN.out.on x.below) HRN.out))
        obtain ⟨Pr, hPr⟩ : ∃ P, P = bsB S.print := ⟨_, rfl⟩
        rw [← hPr] at HT1 HSZ
        have HPr := Lib.hid hPr
        obtain ⟨lt, cc, -⟩ := KX
        have c0 := cc 0 _ rfl
        have c1 := cc 1 _ rfl
        have c2 := cc 2 _ rfl
        have c3 := cc 3 _ rfl
        have c4 := cc 4 _ rfl
        have c5 := cc 5 _ rfl
        have c6 := cc 6 _ rfl
        have c7 := cc 7 _ rfl
        have c8 := cc 8 _ rfl
        simp only at c0 c1 c2 c3 c4 c5 c6 c7 c8
        have r0 := fun (x : After N) => (x.cell gx 0 lt).trans c0
        have r1 := fun (x : After N) => (x.cell gx 1 lt).trans c1
        have r2 := fun (x : After N) => (x.cell gx 2 lt).trans c2
        have r3 := fun (x : After N) => (x.cell gx 3 lt).trans c3
        have r4 := fun (x : After N) => (x.cell gx 4 lt).trans c4
        have r5 := fun (x : After N) => (x.cell gx 5 lt).trans c5
        have r6 := fun (x : After N) => (x.cell gx 6 lt).trans c6
        have r7 := fun (x : After N) => (x.cell gx 7 lt).trans c7
        have r8 := fun (x : After N) => (x.cell gx 8 lt).trans c8
        clear cc c0 c1 c2 c3 c4 c5 c6 c7 c8 hPr hM hown hD1 hD2 BN HP HBX
        have is := After.some N
        refine wp_region_after_tail 4 (by kernel_rfl) (by kernel_rfl) ?_
        simp only [List.take_succ_cons, List.take_zero, List.drop_succ_cons, List.drop_zero]
        repeat (quiet_step ((go_at_call 29; with_reducible exact HT1.out _)))
        refine wpQuiet_nil ?_
        intro Wq hw
        have hbq : Below N.heap.size N Wq := by obtain ⟨x, rfl⟩ := hw; exact x.below
        clear r0 r1 r2 r3 r4 r5 r6 r7 r8 is hw lt
        have HOQ : Wq.ownsMap Tryz.prog 9 rawX m i D := by
          have hl := HOW.out.lt
          obtain ⟨es, clock, hb, hr⟩ := HOW.out
          exact ⟨es, clock, by rw [hbq.block m hl]; exact hb, hr⟩
        have HPQ := Lib.hid (HPN.out.below hbq)
        have HBQ := Lib.hid (HBN.out.trans (hbq.mono HBN.out.size))
        have HD2Q := Lib.hid (fun x hx => (show ∃ r : RawE, (∀ z, D.atKey (.string x.print) z = .held (.agg r.cells.toArray)) ∧ ExMP Wq (fun k => m ≤ k ∧ k ≠ m) x r.cells by
          obtain ⟨r, h1, h2⟩ := HD2.out x hx
          exact ⟨r, h1, h2.below hbq⟩))
        have HOQ := Lib.hid HOQ
        clear hbq HOW HPN HBN HD2 HT1
        refine wpList_mapUpdate_own _ rfl _ _ _ 57 rfl 9 26 (string_keyed Tryz.underlying9) Tryz.underlying57 rawX m i D rfl HOQ.out (by unfold maxLen; omega) _ _ _ rfl rfl (key_ofX Pr (by have := HSZ.out; omega)) (.held (.agg (RawE.cells ⟨opz, ⟨vkz, vnz, vsz⟩, relz, colz, nz, sz, qz, lenz, cz⟩).toArray)) [] rfl ?_
        intro w1 hown1 hg1
        have HK : Pr.data.toList = S.print := by rw [HPr.out]
        rw [HK] at hown1
        have HMN := Lib.hid (MapX.put HOK.out HD1.out HD2Q.out HOQ.out.isMap HRN.out HPQ.out hown1 hg1)
        rw [← HT.out] at HMN
        have HBN := Lib.hid ((HB.out.trans (HBQ.out.mono HB.out.size)).trans (show Below w.heap.size Wq w1 from (Below.refl _ _).grown hg1 (Nat.le_trans HB.out.size HBQ.out.size) (fun k hk => by (have e : k = m := by simpa using hk.symm); have h5 := HMW.out; omega)))
        clear hown1 hg1 HK
        go_wp2_with fail
        go_roundw
        case rel => exact ⟨i + 1, by go_num, hlt, HMN.out, HBN.out, HTA.out⟩
        case measure => simp [intOf] <;> omega
    · have HE := Lib.hid (show L.take i = L by rw [show i = L.length by rw [← HLEN.out]; omega, List.take_length])
      rw [HE.out] at HM HA
      obtain rfl : i = len := by omega
      go_wp2_with fail
      refine bodyPost_ret (v := .tuple #[.map (some m), .int .i64 0]) (by simp [results, Tryz.results20, go_sem]) rfl ⟨.inl ⟨HA.out, m, rfl, by rw [HMW.out]; exact Nat.le_refl _, by rw [← HMW.out]; exact HM.out⟩, HB.out⟩
open Go.Shelf
def Tryz.laysM176_ren : Go.Shelf.Ren := ⟨fun | 176 => 22 | 249 => 45 | 288 => 62 | 283 => 73 | 284 => 74 | 285 => 75 | 286 => 76 | 129 => 87 | 317 => 91 | 318 => 92 | 319 => 93 | 320 => 94 | 337 => 102 | 338 => 103 | n => n, fun | 37 => 61 | 2 => 2 | 3 => 3 | 53 => 92 | 4 => 4 | 9 => 9 | 171 => 103 | 0 => 0 | 173 => 105 | 212 => 119 | 51 => 90 | 5 => 5 | 20 => 20 | 213 => 120 | 46 => 76 | 232 => 132 | 233 => 133 | n => n, fun | 17 => 1 | 18 => 2 | 19 => 3 | n => n⟩
theorem Tryz.laysM176 : Go.Proofs.LaysM.n176 Tryz.prog Tryz.laysM176_ren := {
  mixed := by kernel_rfl
  f129 := Tryz.func87.trans (congrArg some (by kernel_rfl))
  f176 := Tryz.func22.trans (congrArg some (by kernel_rfl))
  f249 := Tryz.func45.trans (congrArg some (by kernel_rfl))
  f283 := Tryz.func73.trans (congrArg some (by kernel_rfl))
  f284 := Tryz.func74.trans (congrArg some (by kernel_rfl))
  f285 := Tryz.func75.trans (congrArg some (by kernel_rfl))
  f286 := Tryz.func76.trans (congrArg some (by kernel_rfl))
  f288 := Tryz.func62.trans (congrArg some (by kernel_rfl))
  f317 := Tryz.func91.trans (congrArg some (by kernel_rfl))
  f318 := Tryz.func92.trans (congrArg some (by kernel_rfl))
  f319 := Tryz.func93.trans (congrArg some (by kernel_rfl))
  f320 := Tryz.func94.trans (congrArg some (by kernel_rfl))
  f337 := Tryz.func102.trans (congrArg some (by kernel_rfl))
  f338 := Tryz.func103.trans (congrArg some (by kernel_rfl))
  t0 := Tryz.underlying0
  a0 := Tryz.isAgg0
  z0 := Tryz.sizeOf0
  v0 := Tryz.zeroValue0
  t2 := Tryz.underlying2
  a2 := Tryz.isAgg2
  z2 := Tryz.sizeOf2
  v2 := Tryz.zeroValue2
  t3 := Tryz.underlying3
  a3 := Tryz.isAgg3
  z3 := Tryz.sizeOf3
  v3 := Tryz.zeroValue3
  t4 := Tryz.underlying4
  a4 := Tryz.isAgg4
  z4 := Tryz.sizeOf4
  v4 := Tryz.zeroValue4
  t5 := Tryz.underlying5
  a5 := Tryz.isAgg5
  z5 := Tryz.sizeOf5
  v5 := Tryz.zeroValue5
  t9 := Tryz.underlying9
  a9 := Tryz.isAgg9
  z9 := Tryz.sizeOf9
  v9 := Tryz.zeroValue9
  t20 := Tryz.underlying20
  a20 := Tryz.isAgg20
  z20 := Tryz.sizeOf20
  v20 := Tryz.zeroValue20
  t37 := Tryz.underlying61
  a37 := Tryz.isAgg61
  z37 := Tryz.sizeOf61
  v37 := Tryz.zeroValue61
  t46 := Tryz.underlying76
  a46 := Tryz.isAgg76
  z46 := Tryz.sizeOf76
  v46 := Tryz.zeroValue76
  t51 := Tryz.underlying90
  a51 := Tryz.isAgg90
  z51 := Tryz.sizeOf90
  v51 := Tryz.zeroValue90
  t53 := Tryz.underlying92
  a53 := Tryz.isAgg92
  z53 := Tryz.sizeOf92
  v53 := Tryz.zeroValue92
  t171 := Tryz.underlying103
  a171 := Tryz.isAgg103
  z171 := Tryz.sizeOf103
  v171 := Tryz.zeroValue103
  t173 := Tryz.underlying105
  a173 := Tryz.isAgg105
  z173 := Tryz.sizeOf105
  v173 := Tryz.zeroValue105
  t212 := Tryz.underlying119
  a212 := Tryz.isAgg119
  z212 := Tryz.sizeOf119
  v212 := Tryz.zeroValue119
  t213 := Tryz.underlying120
  a213 := Tryz.isAgg120
  z213 := Tryz.sizeOf120
  t232 := Tryz.underlying132
  a232 := Tryz.isAgg132
  z232 := Tryz.sizeOf132
  v232 := Tryz.zeroValue132
  t233 := Tryz.underlying133
  a233 := Tryz.isAgg133
  z233 := Tryz.sizeOf133
  v233 := Tryz.zeroValue133
  g17 := by kernel_rfl
  g18 := by kernel_rfl
  g19 := by kernel_rfl
  i0 := by kernel_rfl
  i2 := by kernel_rfl
  i3 := by kernel_rfl
  i4 := by kernel_rfl
  i5 := by kernel_rfl
  i9 := by kernel_rfl
  i20 := by kernel_rfl
  i37 := by kernel_rfl
  i46 := by kernel_rfl
  i51 := by kernel_rfl
  i53 := by kernel_rfl
  i171 := by kernel_rfl
  i173 := by kernel_rfl
  i212 := by kernel_rfl
  i232 := by kernel_rfl
  i233 := by kernel_rfl
  m17 := by kernel_rfl
  m18 := by kernel_rfl
  m19 := by kernel_rfl }
def Tryz.keys24_ren : Go.Shelf.Ren := ⟨fun | 7 => 24 | 10 => 48 | n => n, fun | 23 => 57 | 26 => 9 | 3 => 26 | 28 => 66 | 0 => 0 | 27 => 65 | 33 => 79 | 4 => 4 | n => n, fun | n => n⟩
theorem Tryz.keys24 : Go.Proofs.SlLaysZ.n7 Tryz.prog Tryz.keys24_ren := {
  mixed := by kernel_rfl
  f7 := ⟨Tryz.f24.name, by decide, Tryz.func24.trans (congrArg some (by kernel_rfl))⟩
  f10 := ⟨Tryz.f48.name, by decide, Tryz.func48.trans (congrArg some (by kernel_rfl))⟩
  t0 := Tryz.underlying0
  a0 := Tryz.isAgg0
  z0 := Tryz.sizeOf0
  v0 := Tryz.zeroValue0
  t4 := Tryz.underlying4
  a4 := Tryz.isAgg4
  z4 := Tryz.sizeOf4
  v4 := Tryz.zeroValue4
  t23 := Tryz.underlying57
  a23 := Tryz.isAgg57
  z23 := Tryz.sizeOf57
  v23 := Tryz.zeroValue57
  t26 := Tryz.underlying9
  a26 := Tryz.isAgg9
  z26 := Tryz.sizeOf9
  v26 := Tryz.zeroValue9
  t27 := Tryz.underlying65
  a27 := Tryz.isAgg65
  z27 := Tryz.sizeOf65
  v27 := Tryz.zeroValue65
  t28 := Tryz.underlying66
  a28 := Tryz.isAgg66
  z28 := Tryz.sizeOf66
  v28 := Tryz.zeroValue66
  t33 := Tryz.underlying79
  a33 := Tryz.isAgg79
  z33 := Tryz.sizeOf79
  v33 := Tryz.zeroValue79 }
def Tryz.sorted23_ren : Go.Shelf.Ren := ⟨fun | 6 => 23 | 8 => 46 | 9 => 47 | 11 => 63 | 13 => 65 | 12 => 64 | 23 => 86 | 24 => 87 | 14 => 77 | 15 => 78 | 16 => 79 | 17 => 80 | 18 => 81 | 19 => 82 | 20 => 83 | 21 => 84 | 22 => 85 | 25 => 95 | 26 => 96 | 27 => 97 | 28 => 98 | 29 => 99 | 30 => 100 | 31 => 104 | n => n, fun | 26 => 9 | 28 => 66 | 24 => 63 | 0 => 0 | 3 => 3 | 37 => 76 | 48 => 90 | 50 => 92 | 4 => 4 | 40 => 109 | 39 => 108 | 45 => 98 | 5 => 5 | 9 => 9 | 51 => 122 | 55 => 126 | 57 => 129 | 58 => 130 | 33 => 79 | n => n, fun | n => n⟩
theorem Tryz.sorted23 : Go.Proofs.SlLaysZ.n6 Tryz.prog Tryz.sorted23_ren := {
  mixed := by kernel_rfl
  f6 := ⟨Tryz.f23.name, by decide, Tryz.func23.trans (congrArg some (by kernel_rfl))⟩
  f8 := ⟨Tryz.f46.name, by decide, Tryz.func46.trans (congrArg some (by kernel_rfl))⟩
  f11 := ⟨Tryz.f63.name, by decide, Tryz.func63.trans (congrArg some (by kernel_rfl))⟩
  t0 := Tryz.underlying0
  a0 := Tryz.isAgg0
  z0 := Tryz.sizeOf0
  v0 := Tryz.zeroValue0
  t24 := Tryz.underlying63
  a24 := Tryz.isAgg63
  z24 := Tryz.sizeOf63
  v24 := Tryz.zeroValue63
  t26 := Tryz.underlying9
  a26 := Tryz.isAgg9
  z26 := Tryz.sizeOf9
  v26 := Tryz.zeroValue9
  t28 := Tryz.underlying66
  a28 := Tryz.isAgg66
  z28 := Tryz.sizeOf66
  v28 := Tryz.zeroValue66
  i26 := by kernel_rfl }
def Tryz.sort47_ren : Go.Shelf.Ren := ⟨fun | 6 => 47 | 8 => 65 | 9 => 64 | 19 => 86 | 20 => 87 | 21 => 77 | 22 => 78 | 23 => 79 | 24 => 80 | 25 => 81 | 26 => 82 | 27 => 83 | 28 => 84 | 29 => 85 | 36 => 95 | 31 => 96 | 32 => 97 | 37 => 98 | 38 => 99 | 39 => 100 | 41 => 104 | n => n, fun | 27 => 63 | 29 => 9 | 3 => 3 | 32 => 76 | 26 => 63 | 0 => 0 | 44 => 90 | 46 => 92 | 4 => 4 | 36 => 109 | 35 => 108 | 41 => 98 | 5 => 5 | 9 => 9 | 53 => 122 | 57 => 126 | 63 => 129 | 64 => 130 | n => n, fun | n => n⟩
theorem Tryz.sort47 : Go.Proofs.SlLaysM.n6 Tryz.prog Tryz.sort47_ren := {
  mixed := by kernel_rfl
  f6 := ⟨Tryz.f47.name, by decide, Tryz.func47.trans (congrArg some (by kernel_rfl))⟩
  f8 := Tryz.func65.trans (congrArg some (by kernel_rfl))
  f9 := ⟨Tryz.f64.name, by decide, Tryz.func64.trans (congrArg some (by kernel_rfl))⟩
  f19 := Tryz.func86.trans (congrArg some (by kernel_rfl))
  f20 := Tryz.func87.trans (congrArg some (by kernel_rfl))
  f21 := ⟨Tryz.f77.name, by decide, Tryz.func77.trans (congrArg some (by kernel_rfl))⟩
  f22 := ⟨Tryz.f78.name, by decide, Tryz.func78.trans (congrArg some (by kernel_rfl))⟩
  f23 := ⟨Tryz.f79.name, by decide, Tryz.func79.trans (congrArg some (by kernel_rfl))⟩
  f24 := ⟨Tryz.f80.name, by decide, Tryz.func80.trans (congrArg some (by kernel_rfl))⟩
  f25 := ⟨Tryz.f81.name, by decide, Tryz.func81.trans (congrArg some (by kernel_rfl))⟩
  f26 := ⟨Tryz.f82.name, by decide, Tryz.func82.trans (congrArg some (by kernel_rfl))⟩
  f27 := ⟨Tryz.f83.name, by decide, Tryz.func83.trans (congrArg some (by kernel_rfl))⟩
  f28 := ⟨Tryz.f84.name, by decide, Tryz.func84.trans (congrArg some (by kernel_rfl))⟩
  f29 := ⟨Tryz.f85.name, by decide, Tryz.func85.trans (congrArg some (by kernel_rfl))⟩
  f31 := Tryz.func96.trans (congrArg some (by kernel_rfl))
  f32 := Tryz.func97.trans (congrArg some (by kernel_rfl))
  f36 := ⟨Tryz.f95.name, by decide, Tryz.func95.trans (congrArg some (by kernel_rfl))⟩
  f37 := ⟨Tryz.f98.name, by decide, Tryz.func98.trans (congrArg some (by kernel_rfl))⟩
  f38 := ⟨Tryz.f99.name, by decide, Tryz.func99.trans (congrArg some (by kernel_rfl))⟩
  f39 := ⟨Tryz.f100.name, by decide, Tryz.func100.trans (congrArg some (by kernel_rfl))⟩
  f41 := ⟨Tryz.f104.name, by decide, Tryz.func104.trans (congrArg some (by kernel_rfl))⟩
  t0 := Tryz.underlying0
  a0 := Tryz.isAgg0
  z0 := Tryz.sizeOf0
  v0 := Tryz.zeroValue0
  t3 := Tryz.underlying3
  a3 := Tryz.isAgg3
  z3 := Tryz.sizeOf3
  v3 := Tryz.zeroValue3
  t4 := Tryz.underlying4
  a4 := Tryz.isAgg4
  z4 := Tryz.sizeOf4
  v4 := Tryz.zeroValue4
  t5 := Tryz.underlying5
  a5 := Tryz.isAgg5
  z5 := Tryz.sizeOf5
  v5 := Tryz.zeroValue5
  t9 := Tryz.underlying9
  a9 := Tryz.isAgg9
  z9 := Tryz.sizeOf9
  v9 := Tryz.zeroValue9
  t26 := Tryz.underlying63
  a26 := Tryz.isAgg63
  z26 := Tryz.sizeOf63
  v26 := Tryz.zeroValue63
  t27 := Tryz.underlying63
  a27 := Tryz.isAgg63
  z27 := Tryz.sizeOf63
  v27 := Tryz.zeroValue63
  t29 := Tryz.underlying9
  a29 := Tryz.isAgg9
  z29 := Tryz.sizeOf9
  v29 := Tryz.zeroValue9
  t32 := Tryz.underlying76
  a32 := Tryz.isAgg76
  z32 := Tryz.sizeOf76
  v32 := Tryz.zeroValue76
  t35 := Tryz.underlying108
  a35 := Tryz.isAgg108
  z35 := Tryz.sizeOf108
  v35 := Tryz.zeroValue108
  t36 := Tryz.underlying109
  a36 := Tryz.isAgg109
  z36 := Tryz.sizeOf109
  v36 := Tryz.zeroValue109
  t41 := Tryz.underlying98
  a41 := Tryz.isAgg98
  z41 := Tryz.sizeOf98
  v41 := Tryz.zeroValue98
  t44 := Tryz.underlying90
  a44 := Tryz.isAgg90
  z44 := Tryz.sizeOf90
  v44 := Tryz.zeroValue90
  t46 := Tryz.underlying92
  a46 := Tryz.isAgg92
  z46 := Tryz.sizeOf92
  v46 := Tryz.zeroValue92
  t53 := Tryz.underlying122
  a53 := Tryz.isAgg122
  z53 := Tryz.sizeOf122
  v53 := Tryz.zeroValue122
  t57 := Tryz.underlying126
  a57 := Tryz.isAgg126
  z57 := Tryz.sizeOf126
  v57 := Tryz.zeroValue126
  t63 := Tryz.underlying129
  a63 := Tryz.isAgg129
  z63 := Tryz.sizeOf129
  v63 := Tryz.zeroValue129
  t64 := Tryz.underlying130
  a64 := Tryz.isAgg130
  z64 := Tryz.sizeOf130
  v64 := Tryz.zeroValue130 }
end Go.Proofs.YtklgoajgchfmeaaGreatDoor
