/- A part of the proof. -/
import Derived.Test.YtklgoajgchfmeaaDoorSnD
import Derived.Test.YtklgoajgchfmeaaDoorKi
import Derived.Sort.OwnSorted
import Derived.Shelf.Strconv.AppendIntPublic10
import Derived.Ground.NamesProg
import Derived.Shelf.SlIter.Nil
import Derived.Shelf.SortM.Plain
import Derived.Shelf.SortM.SortNone
import Derived.Ground.GgzProg
import Derived.Ground.SlgmProg
import Derived.Test.YtklgoajgchfmeaaDoorProg
set_option linter.unusedVariables false
set_option linter.unusedSimpArgs false
namespace Go.Proofs.YtklgoajgchfmeaaDoor
open Go.RowKit Go.Maps Go.ChangeShapes Go.Deep
set_option maxRecDepth 100000
def exN : Ex := .mk 0 zeroVal 0 0 0 ⟨#[]⟩ []
def normR (x : Ex) : Ex := if rightE x = true then x.norm else exN
def errR (x : Ex) : Int := if rightE x = true then 0 else 1
theorem exN_in (w : World) (P : Nat → Prop) : ExMP w P exN rawZ.cells := by
  refine ExMP.iff.2 ⟨⟨by decide, by decide, by decide⟩, none, 0, rfl, Nat.le_refl _, ?_⟩
  rw [ExLP]
  trivial
set_option maxHeartbeats 8000000 in
theorem dnormal_any (x : Ex) (cs : List Value) (w : World) (hx : ExM w x cs) (hG : GE w) : Calls Tryd.prog 10 #[.agg cs.toArray] w fun e w' => (∃ r : RawE, e = .returned (.tuple #[.agg r.cells.toArray, .int .i64 (errR x)]) ∧ ExMP w' (fun g => w.heap.size ≤ g) (normR x) r.cells) ∧ Below w.heap.size w w' := by
  have HX := Lib.hid hx
  have HG := Lib.hid hG
  obtain ⟨op, v, rel, col, n, s, l⟩ := x
  rw [ExM.iff] at hx
  obtain ⟨-, q, c, rfl, -, -⟩ := hx
  obtain ⟨len, hlen⟩ : ∃ len, len = l.length := ⟨_, rfl⟩
  rw [← hlen] at HX ⊢
  clear hlen
  obtain ⟨W1, hW1⟩ : ∃ W, W = w.alloc (.cells (exCells op v rel col n s q len c).toArray 26) := ⟨_, rfl⟩
  have E0 : XB W1 w.heap.size ⟨op, v, rel, col, n, s, q, len, c⟩ := by rw [hW1]; exact XB.new w ⟨op, v, rel, col, n, s, q, len, c⟩ _
  have z1 : W1.heap.size = w.heap.size + 1 := by rw [hW1]; simp
  obtain ⟨W, hW⟩ : ∃ W, W = W1.alloc (.cells rawZ.cells.toArray 26) := ⟨_, rfl⟩
  have b1 : Below W1.heap.size W1 W := by rw [hW]; (repeat (first | exact ext_refl _ | assumption | (refine ext_alloc ?_ _) | (refine ext_drewN ?_ _) | refine ext_drew ?_ | (refine ext_set (by first | (simp; done) | (simp; omega)) _ ?_) | (refine ext_trans ?_ (by assumption))))
  have E1 := E0.on b1
  have E2 : XB W (w.heap.size + 1) rawZ := by rw [hW, ← z1]; exact XB.new W1 rawZ _
  have b : Below w.heap.size w W := by rw [hW, hW1]; (repeat (first | exact ext_refl _ | assumption | (refine ext_alloc ?_ _) | (refine ext_drewN ?_ _) | refine ext_drew ?_ | (refine ext_set (by first | (simp; done) | (simp; omega)) _ ?_) | (refine ext_trans ?_ (by assumption))))
  have HWW := Lib.hid (show W = (w.alloc (.cells (exCells op v rel col n s q len c).toArray 26)).alloc (.cells rawZ.cells.toArray 26) by rw [hW, hW1])
  clear hW hW1 E0 z1 b1
  go_enter Tryd.func10, Tryd.ntmps10
  go_upto_region 1 with fail
  change Code.wp _ _ _ _ ((w.alloc (.cells (exCells op v rel col n s q len c).toArray 26)).alloc (.cells rawZ.cells.toArray 26))
  rw [← HWW.out]
  clear HWW
  obtain ⟨g, hg⟩ : ∃ g, g = w.heap.size := ⟨_, rfl⟩
  have HGW := Lib.hid hg
  rw [← hg] at E1 E2 ⊢
  have HB := Lib.hid b
  have HE1 := Lib.hid E1
  have HE2 := Lib.hid E2
  clear hg b E2
  obtain ⟨lt, cc, -⟩ := E1
  have c0 := cc 0 _ rfl
  have c1 := cc 1 _ rfl
  have c2 := cc 2 _ rfl
  have c3 := cc 3 _ rfl
  have c4 := cc 4 _ rfl
  have c5 := cc 5 _ rfl
  have c6 := cc 6 _ rfl
  have c7 := cc 7 _ rfl
  have c8 := cc 8 _ rfl
  simp only at c0 c1 c2 c3 c4 c5 c6 c7 c8
  clear cc
  go_wp2_with fail
  refine (dright_any _ _ W (ExM.ext HB.out _ _ HX.out) (HG.out.on HB.out)).mono ?_
  rintro e X ⟨rfl, hbX⟩
  have HBX := Lib.hid (HB.out.trans (hbX.mono HB.out.size))
  have HE1X := HE1.out.on hbX
  have HE2X := Lib.hid (HE2.out.on hbX)
  clear hbX lt c0 c1 c2 c3 c4 c5 c6 c7 c8 HE1 HE2
  cases hs : rightE (.mk op v rel col n s l) with
  | false =>
    have HN := Lib.hid (show normR (.mk op v rel col n s l) = exN by unfold normR; rw [if_neg (by rw [hs]; decide)])
    have HR := Lib.hid (show errR (.mk op v rel col n s l) = 1 by unfold errR; rw [if_neg (by rw [hs]; decide)])
    clear hs HE1X
    obtain ⟨ltR, cR, fR⟩ := HE2X.out
    have d0 := cR 0 _ rfl
    have d1 := cR 1 _ rfl
    have d2 := cR 2 _ rfl
    have d3 := cR 3 _ rfl
    have d4 := cR 4 _ rfl
    have d5 := cR 5 _ rfl
    have d6 := cR 6 _ rfl
    have d7 := cR 7 _ rfl
    have d8 := cR 8 _ rfl
    clear cR
    go_wp2_with fail
    change bodyPost _ _ _ _ _ (setE X (g + 1) 0 rawZ)
    have hO := setE_out X (g + 1) 0 rawZ
    have hX2 := XB.setAll HE2X.out rawZ
    obtain ⟨Q, hQQ⟩ : ∃ Q, Q = setE X (g + 1) 0 rawZ := ⟨_, rfl⟩
    rw [← hQQ] at hO hX2
    rw [← hQQ]
    obtain ⟨-, cQ, -⟩ := hX2
    have q0 := cQ 0 _ rfl
    have q1 := cQ 1 _ rfl
    have q2 := cQ 2 _ rfl
    have q3 := cQ 3 _ rfl
    have q4 := cQ 4 _ rfl
    have q5 := cQ 5 _ rfl
    have q6 := cQ 6 _ rfl
    have q7 := cQ 7 _ rfl
    have q8 := cQ 8 _ rfl
    clear hQQ cQ
    refine bodyPost_ret (v := .tuple #[.agg rawZ.cells.toArray, .int .i64 1]) (by simp [results, Tryd.results10, go_sem, q0, q1, q2, q3, q4, q5, q6, q7, q8]) rfl ⟨⟨rawZ, by rw [HR.out], ?_⟩, ?_⟩
    · rw [HN.out]
      exact exN_in _ _
    · have h1 := HBX.out
      exact h1.trans (hO.below h1.size (fun k hk => by rw [hk]; have := HGW.out; omega))
  | true =>
    have HN := Lib.hid (show normR (.mk op v rel col n s l) = (Ex.mk op v rel col n s l).norm by unfold normR; rw [if_pos hs])
    have HR := Lib.hid (show errR (.mk op v rel col n s l) = 0 by unfold errR; rw [if_pos hs])
    have HM := Lib.hid (normC_any _ (.mk op v rel col n s l) (Nat.le_refl _) (right_iff8.1 hs).1 X _ (ExM.ext HBX.out _ _ HX.out) (HG.out.on HBX.out) hs)
    clear hs
    obtain ⟨lt, cc, -⟩ := HE1X
    have c0 := cc 0 _ rfl
    have c1 := cc 1 _ rfl
    have c2 := cc 2 _ rfl
    have c3 := cc 3 _ rfl
    have c4 := cc 4 _ rfl
    have c5 := cc 5 _ rfl
    have c6 := cc 6 _ rfl
    have c7 := cc 7 _ rfl
    have c8 := cc 8 _ rfl
    simp only at c0 c1 c2 c3 c4 c5 c6 c7 c8
    clear cc
    go_wp2_with fail
    refine HM.out.mono ?_
    rintro e Y ⟨⟨cs', rfl, hP⟩, hbY⟩
    have HP := Lib.hid hP
    have HBY := Lib.hid (HBX.out.trans (hbY.mono HBX.out.size))
    have HE2Y := Lib.hid (HE2X.out.on hbY)
    obtain ⟨r', rfl⟩ := hP.raw
    have HXS := Lib.hid HE2X.out.lt
    clear hP hbY HE2X lt c0 c1 c2 c3 c4 c5 c6 c7 c8 HM
    obtain ⟨op2, ⟨vk2, vn2, vs2⟩, rel2, col2, n2, s2, qz2, len2, cz2⟩ := r'
    obtain ⟨ltR, cR, fR⟩ := HE2Y.out
    have d0 := cR 0 _ rfl
    have d1 := cR 1 _ rfl
    have d2 := cR 2 _ rfl
    have d3 := cR 3 _ rfl
    have d4 := cR 4 _ rfl
    have d5 := cR 5 _ rfl
    have d6 := cR 6 _ rfl
    have d7 := cR 7 _ rfl
    have d8 := cR 8 _ rfl
    clear cR
    go_wp2_with fail
    change bodyPost _ _ _ _ _ (setE Y (g + 1) 0 ⟨op2, ⟨vk2, vn2, vs2⟩, rel2, col2, n2, s2, qz2, len2, cz2⟩)
    have hO := setE_out Y (g + 1) 0 ⟨op2, ⟨vk2, vn2, vs2⟩, rel2, col2, n2, s2, qz2, len2, cz2⟩
    have hX2 := XB.setAll HE2Y.out ⟨op2, ⟨vk2, vn2, vs2⟩, rel2, col2, n2, s2, qz2, len2, cz2⟩
    obtain ⟨Q, hQQ⟩ : ∃ Q, Q = setE Y (g + 1) 0 ⟨op2, ⟨vk2, vn2, vs2⟩, rel2, col2, n2, s2, qz2, len2, cz2⟩ := ⟨_, rfl⟩
    rw [← hQQ] at hO hX2
    rw [← hQQ]
    obtain ⟨-, cQ, -⟩ := hX2
    have q0 := cQ 0 _ rfl
    have q1 := cQ 1 _ rfl
    have q2 := cQ 2 _ rfl
    have q3 := cQ 3 _ rfl
    have q4 := cQ 4 _ rfl
    have q5 := cQ 5 _ rfl
    have q6 := cQ 6 _ rfl
    have q7 := cQ 7 _ rfl
    have q8 := cQ 8 _ rfl
    clear hQQ cQ
    simp only at q0 q1 q2 q3 q4 q5 q6 q7 q8
    refine bodyPost_ret (v := .tuple #[.agg (RawE.cells ⟨op2, ⟨vk2, vn2, vs2⟩, rel2, col2, n2, s2, qz2, len2, cz2⟩).toArray, .int .i64 0]) (by simp [results, Tryd.results10, go_sem, q0, q1, q2, q3, q4, q5, q6, q7, q8]) rfl ⟨⟨⟨op2, ⟨vk2, vn2, vs2⟩, rel2, col2, n2, s2, qz2, len2, cz2⟩, by rw [HR.out], ?_⟩, ?_⟩
    · rw [HN.out]
      refine ExMP.on hO.size (fun k hk hkw => hO.block k hkw (fun e => ?_)) (fun k hk _ => ?_) _ _ HP.out
      · have h2 : X.heap.size ≤ k := hk
        have h3 := HXS.out
        have e : k = g + 1 := e
        omega
      · have h2 : X.heap.size ≤ k := hk
        exact Nat.le_trans HBX.out.size h2
    · have h1 := HBY.out
      exact h1.trans (hO.below h1.size (fun k hk => by rw [hk]; have := HGW.out; omega))
open Go.RowKit Go.Maps Go.ChangeShapes Go.Deep
set_option maxRecDepth 100000
def rawX (v : Value) : Option (DataW Value × List MemPlace) := some (.held v, [])
theorem key_ofX (s : ByteArray) (h : s.size ≤ 140737488355328) : keyOf Tryd.prog 9 (.string s) = some (.string s.data.toList) := Go.WideMaps.keyOf_string_mk Tryd.underlying9 (by unfold maxLen; omega)
structure MapX (w : World) (m n b : Nat) (L : List Ex) : Prop where
  ok : ∀ x ∈ L, rightE x = true
  own : ∃ D : DataW Value, w.ownsMap Tryd.prog 9 rawX m n D ∧ (∀ t, Maps.has D (.string t) = true ↔ ∃ x ∈ L, x.print = t) ∧
    ∀ x ∈ L, ∃ r : RawE, (∀ z, D.atKey (.string x.print) z = .held (.agg r.cells.toArray)) ∧ ExMP w (fun k => b ≤ k ∧ k ≠ m) x r.cells
theorem MapX.outs {S : Nat → Prop} {w w' : World} {m n b : Nat} {L : List Ex} (h : MapX w m n b L) (o : Out S w w') (hm : ¬ S m) (hS : ∀ k, S k → ¬ b ≤ k) : MapX w' m n b L := by
  obtain ⟨ok, D, hown, h1, h2⟩ := h
  have hl := hown.lt
  obtain ⟨es, clock, hb, hr⟩ := hown
  refine ⟨ok, D, ⟨es, clock, by rw [o.block m hl hm]; exact hb, hr⟩, h1, fun x hx => ?_⟩
  obtain ⟨r, h3, h4⟩ := h2 x hx
  exact ⟨r, h3, ExMP.on o.size (fun k hk hkw => o.block k hkw fun e => hS k e hk.1) (fun _ h _ => h) _ _ h4⟩
theorem MapX.below {w w' : World} {m n b : Nat} {L : List Ex} (h : MapX w m n b L) (hb : Below w.heap.size w w') : MapX w' m n b L := h.outs (Out.of (S := fun _ => False) hb) (fun h => h) (fun _ h => h.elim)
theorem MapX.lt {w : World} {m n b : Nat} {L : List Ex} (h : MapX w m n b L) : m < w.heap.size := by obtain ⟨-, D, hown, -⟩ := h; exact hown.lt
theorem str_keyX (t : List UInt8) : WideAt.IsKeyLit (.string t) := trivial
theorem MapX.put {w w1 : World} {m n b : Nat} {L : List Ex} {y : Ex} {r : RawE} {D : DataW Value} (ok : ∀ x ∈ L, rightE x = true) (h1 : ∀ t, Maps.has D (.string t) = true ↔ ∃ x ∈ L, x.print = t)
    (h2 : ∀ x ∈ L, ∃ r : RawE, (∀ z, D.atKey (.string x.print) z = .held (.agg r.cells.toArray)) ∧ ExMP w (fun k => b ≤ k ∧ k ≠ m) x r.cells) (hD : IsMap D)
    (hy : rightE y = true) (hr : ExMP w (fun k => b ≤ k ∧ k ≠ m) y r.cells) (hown : w1.ownsMap Tryd.prog 9 rawX m (n + 1) (D.put (.string y.print) (.held (.agg r.cells.toArray)))) (hg : w.grownBy w1 (some m)) : MapX w1 m (n + 1) b (L ++ [y]) := by
  have hP : ∀ (x : Ex) (cs : List Value), ExMP w (fun k => b ≤ k ∧ k ≠ m) x cs → ExMP w1 (fun k => b ≤ k ∧ k ≠ m) x cs := fun x cs hx => ExMP.on hg.size (fun k hk hkw => hg.block k hkw (fun e => hk.2 (by simpa using e))) (fun _ h _ => h) x cs hx
  refine ⟨fun x hx => ?_, _, hown, fun t => ?_, fun x hx => ?_⟩
  · rcases List.mem_append.1 hx with hx | hx
    · exact ok x hx
    · rw [List.mem_singleton] at hx; rw [hx]; exact hy
  · by_cases e : t = y.print
    · subst e
      rw [has_put_same hD (str_keyX _)]
      exact ⟨fun _ => ⟨y, by simp, rfl⟩, fun _ => rfl⟩
    · rw [has_put_other (fun h => e (by simpa using h)), h1]
      constructor
      · rintro ⟨x, hx, hp⟩; exact ⟨x, by simp [hx], hp⟩
      · rintro ⟨x, hx, hp⟩
        rcases List.mem_append.1 hx with hx | hx
        · exact ⟨x, hx, hp⟩
        · rw [List.mem_singleton] at hx; subst hx; exact absurd hp.symm e
  · by_cases e : x.print = y.print
    · have hxo : rightE x = true := by
        rcases List.mem_append.1 hx with hx | hx
        · exact ok x hx
        · rw [List.mem_singleton] at hx; rw [hx]; exact hy
      obtain rfl := print_inj (right_iff8.1 hxo).1 (right_iff8.1 hy).1 e
      exact ⟨r, fun z => atKey_put_same hD (str_keyX _) _ _, hP _ _ hr⟩
    · have hxL : x ∈ L := by
        rcases List.mem_append.1 hx with hx | hx
        · exact hx
        · rw [List.mem_singleton] at hx; rw [hx] at e; exact absurd rfl e
      obtain ⟨r', h3, h4⟩ := h2 x hxL
      exact ⟨r', fun z => by rw [atKey_put_other (fun h => e (by simpa using h))]; exact h3 z, hP _ _ h4⟩
theorem MapX.made (w : World) (b : Nat) : MapX (w.alloc (.map #[] 0)) w.heap.size 0 b [] :=
  ⟨fun x hx => (by cases hx), DataW.map [], World.ownsMap_made w Tryd.prog 9 rawX, fun t => ⟨fun h => (by cases h), fun ⟨x, hx, _⟩ => (by cases hx)⟩, fun x hx => (by cases hx)⟩
theorem print_size {x : Ex} {w : World} {cs : List Value} (h : ExM w x cs) (hr : rightE x = true) : (bsB x.print).size ≤ 20300 := by
  obtain ⟨h1, -, h3⟩ := right_iff8.1 hr
  have := print_len x cs h h1
  show x.print.length ≤ _
  omega
set_option maxHeartbeats 16000000 in
theorem normals_any (L : List Ex) (q : Option Addr) (c : Nat) (w : World) (hL : ExL w q 0 L) (hn : L.length * 104 ≤ 140737488355328) (hG : GE w) :
    Calls Tryd.prog 26 #[.slice q L.length c] w fun e w' => ((L.all rightE = true ∧ ∃ m, e = .returned (.tuple #[.map (some m), .int .i64 0]) ∧ w.heap.size ≤ m ∧ MapX w' m L.length w.heap.size (L.map Ex.norm)) ∨ (L.all rightE = false ∧ e = .returned (.tuple #[.map none, .int .i64 1]))) ∧ Below w.heap.size w w' := by
  have HL := Lib.hid hL
  have HG := Lib.hid hG
  obtain ⟨len, hlen⟩ : ∃ len, len = L.length := ⟨_, rfl⟩
  rw [← hlen] at hn ⊢
  have HLEN := Lib.hid hlen
  clear hL hG hlen
  have hmm := @run_makeMap Tryd.prog
  go_enter Tryd.func26, Tryd.ntmps26
  go_wp2_with fail
  have HM0 := Lib.hid (MapX.made w w.heap.size)
  have HB0 := Lib.hid (show Below w.heap.size w (w.alloc (.map #[] 0)) from ext_alloc (ext_refl _) _)
  obtain ⟨m, hm⟩ : ∃ m, m = w.heap.size := ⟨_, rfl⟩
  have HMW := Lib.hid hm
  rw [← hm] at HM0 ⊢
  generalize w.alloc (.map #[] 0) = W0 at HM0 HB0 ⊢
  clear hm hmm
  go_loopw [12] (fun v12 wr => ∃ i : Nat, v12 = .int .i64 i ∧ i ≤ len ∧ Hid (MapX wr m i m ((L.take i).map Ex.norm) ∧ Below w.heap.size w wr ∧ (L.take i).all rightE = true)) (fun v12 _ => ((len : Int) - intOf v12).toNat)
  case atStart => exact ⟨0, rfl, Nat.zero_le _, HM0.out, HB0.out, rfl⟩
  case round =>
    obtain ⟨i, rfl, hi, HH⟩ := hrel
    obtain ⟨V, hV⟩ : ∃ V, V = wr := ⟨_, rfl⟩
    rw [← hV] at HH
    rw [← hV]
    clear hV
    have HM := Lib.hid HH.out.1
    have HB := Lib.hid HH.out.2.1
    have HA := Lib.hid HH.out.2.2
    clear HH HM0 HB0
    by_cases hlt : i < len
    · obtain ⟨y, hy⟩ : ∃ y, L[i]? = some y := ⟨_, List.getElem?_eq_getElem (by rw [← HLEN.out]; exact hlt)⟩
      have hl_ := ExL.at_ (ExL.ext HB.out _ _ _ HL.out) hy
      obtain ⟨g0, off0, cs0, hq0, hg0, hx0, hcell⟩ := hl_
      subst hq0
      have HX0 := Lib.hid hx0
      have HT := Lib.hid (show (L.take (i + 1)).map Ex.norm = (L.take i).map Ex.norm ++ [y.norm] by rw [take_snoc hy, List.map_append]; rfl)
      have HTA := Lib.hid (show (L.take (i + 1)).all rightE = rightE y by rw [take_snoc hy, List.all_append, HA.out]; simp)
      have HYM := Lib.hid (List.mem_of_getElem? hy)
      clear hy
      obtain ⟨op1, v1, rel1, col1, n1, s1, l1⟩ := y
      rw [ExM.iff] at hx0
      obtain ⟨-, qq0, cc0, rfl, -, -⟩ := hx0
      have f0 := hcell 0 _ rfl
      have f1 := hcell 1 _ rfl
      have f2 := hcell 2 _ rfl
      have f3 := hcell 3 _ rfl
      have f4 := hcell 4 _ rfl
      have f5 := hcell 5 _ rfl
      have f6 := hcell 6 _ rfl
      have f7 := hcell 7 _ rfl
      have f8 := hcell 8 _ rfl
      simp only [Nat.zero_add, Nat.add_zero] at f0 f1 f2 f3 f4 f5 f6 f7 f8
      clear hcell
      go_wp2_with fail
      have B1 : Below V.heap.size V (V.alloc (.cells (exCells op1 v1 rel1 col1 n1 s1 qq0 l1.length cc0).toArray 26)) := ext_alloc (ext_refl _) _
      have HNR := Lib.hid (dnormal_any _ _ (V.alloc (.cells (exCells op1 v1 rel1 col1 n1 s1 qq0 l1.length cc0).toArray 26)) (ExM.ext B1 _ _ HX0.out) (HG.out.on (HB.out.trans (B1.mono HB.out.size))))
      have HB1 := Lib.hid B1
      clear B1 f0 f1 f2 f3 f4 f5 f6 f7 f8
      refine HNR.out.mono ?_
      rintro e X ⟨⟨r', rfl, hP⟩, hbX⟩
      have HBX := Lib.hid (HB1.out.trans (hbX.mono HB1.out.size))
      have HP := Lib.hid (show ExMP X (fun k => m ≤ k ∧ k ≠ m) (normR (.mk op1 v1 rel1 col1 n1 s1 l1)) r'.cells from ExMP.on (Nat.le_refl _) (fun _ _ _ => rfl) (fun k hk _ => by
        have h1 := HM.out.lt
        have h2 := HB1.out.size
        have hk : _ ≤ k := hk
        omega) _ _ hP)
      clear hP hbX HNR HX0 HB1
      obtain ⟨opz, ⟨vkz, vnz, vsz⟩, relz, colz, nz, sz, qz, lenz, cz⟩ := r'
      cases hs : rightE (.mk op1 v1 rel1 col1 n1 s1 l1) with
      | false =>
        have HR := Lib.hid (show errR (.mk op1 v1 rel1 col1 n1 s1 l1) = 1 by unfold errR; rw [if_neg (by rw [hs]; decide)])
        have HF := Lib.hid (show L.all rightE = false by rw [Bool.eq_false_iff]; intro h; have := List.all_eq_true.1 h _ HYM.out; rw [hs] at this; cases this)
        rw [HR.out]
        clear hs HP
        go_wp2_with fail
        refine bodyPost_ret (v := .tuple #[.map none, .int .i64 1]) (by simp [results, Tryd.results26, go_sem]) rfl ⟨.inr ⟨HF.out, rfl⟩, ?_⟩
        exact (HB.out.trans (HBX.out.mono HB.out.size)).trans ((ext_alloc (ext_refl _) _).mono (Nat.le_trans HB.out.size HBX.out.size))
      | true =>
        have HR := Lib.hid (show errR (.mk op1 v1 rel1 col1 n1 s1 l1) = 0 by unfold errR; rw [if_pos hs])
        have HN := Lib.hid (show normR (.mk op1 v1 rel1 col1 n1 s1 l1) = (Ex.mk op1 v1 rel1 col1 n1 s1 l1).norm by unfold normR; rw [if_pos hs])
        have HRN := Lib.hid (show rightE (Ex.mk op1 v1 rel1 col1 n1 s1 l1).norm = true by rw [norm_right]; exact hs)
        rw [HN.out] at HP
        rw [hs] at HTA
        rw [HR.out]
        clear hs HN HR HYM
        generalize hS : (Ex.mk op1 v1 rel1 col1 n1 s1 l1).norm = S at HP HRN HT
        clear hS
        go_upto_region 8 with fail
        have KX := XB.new X ⟨opz, ⟨vkz, vnz, vsz⟩, relz, colz, nz, sz, qz, lenz, cz⟩ 26
        have BN : Below X.heap.size X (X.alloc (.cells (exCells opz ⟨vkz, vnz, vsz⟩ relz colz nz sz qz lenz cz).toArray 26)) := ext_alloc (ext_refl _) _
        obtain ⟨N, hN⟩ : ∃ N, N = X.alloc (.cells (exCells opz ⟨vkz, vnz, vsz⟩ relz colz nz sz qz lenz cz).toArray 26) := ⟨_, rfl⟩
        change Code.wp _ _ _ _ (X.alloc (.cells (exCells opz ⟨vkz, vnz, vsz⟩ relz colz nz sz qz lenz cz).toArray 26))
        change XB (X.alloc (.cells (exCells opz ⟨vkz, vnz, vsz⟩ relz colz nz sz qz lenz cz).toArray 26)) _ _ at KX
        rw [← hN] at KX BN ⊢
        clear hN
        obtain ⟨gx, hgx⟩ : ∃ g, g = X.heap.size := ⟨_, rfl⟩
        rw [← hgx] at KX ⊢
        clear hgx
        have HPN := Lib.hid (HP.out.below BN)
        have HBN := Lib.hid (HBX.out.trans (BN.mono HBX.out.size))
        have HGN := Lib.hid (HG.out.on (HB.out.trans (HBN.out.mono HB.out.size)))
        have hM := HM.out.below HBN.out
        have HOK := Lib.hid hM.ok
        obtain ⟨D, hown, hD1, hD2⟩ := hM.own
        have HOW := Lib.hid hown
        have HD1 := Lib.hid hD1
        have HD2 := Lib.hid hD2
        have HSZ := Lib.hid (print_size (ExMP.toM _ _ HPN.out) HRN.out)
        have HT1 := Lib.hid (fun (x : After N) => calls_after (text_any S _ x.W (ExM.ext x.below _ _ (ExMP.toM _ _ HPN.out)) (HGN.out.on x.below) HRN.out))
        obtain ⟨Pr, hPr⟩ : ∃ P, P = bsB S.print := ⟨_, rfl⟩
        rw [← hPr] at HT1 HSZ
        have HPr := Lib.hid hPr
        obtain ⟨lt, cc, -⟩ := KX
        have c0 := cc 0 _ rfl
        have c1 := cc 1 _ rfl
        have c2 := cc 2 _ rfl
        have c3 := cc 3 _ rfl
        have c4 := cc 4 _ rfl
        have c5 := cc 5 _ rfl
        have c6 := cc 6 _ rfl
        have c7 := cc 7 _ rfl
        have c8 := cc 8 _ rfl
        simp only at c0 c1 c2 c3 c4 c5 c6 c7 c8
        have r0 := fun (x : After N) => (x.cell gx 0 lt).trans c0
        have r1 := fun (x : After N) => (x.cell gx 1 lt).trans c1
        have r2 := fun (x : After N) => (x.cell gx 2 lt).trans c2
        have r3 := fun (x : After N) => (x.cell gx 3 lt).trans c3
        have r4 := fun (x : After N) => (x.cell gx 4 lt).trans c4
        have r5 := fun (x : After N) => (x.cell gx 5 lt).trans c5
        have r6 := fun (x : After N) => (x.cell gx 6 lt).trans c6
        have r7 := fun (x : After N) => (x.cell gx 7 lt).trans c7
        have r8 := fun (x : After N) => (x.cell gx 8 lt).trans c8
        clear cc c0 c1 c2 c3 c4 c5 c6 c7 c8 hPr hM hown hD1 hD2 BN HP HBX
        have is := After.some N
        refine wp_region_after_tail 4 (by kernel_rfl) (by kernel_rfl) ?_
        simp only [List.take_succ_cons, List.take_zero, List.drop_succ_cons, List.drop_zero]
        repeat (quiet_step ((go_at_call 40; with_reducible exact HT1.out _)))
        refine wpQuiet_nil ?_
        intro Wq hw
        have hbq : Below N.heap.size N Wq := by obtain ⟨x, rfl⟩ := hw; exact x.below
        clear r0 r1 r2 r3 r4 r5 r6 r7 r8 is hw lt
        have HOQ : Wq.ownsMap Tryd.prog 9 rawX m i D := by
          have hl := HOW.out.lt
          obtain ⟨es, clock, hb, hr⟩ := HOW.out
          exact ⟨es, clock, by rw [hbq.block m hl]; exact hb, hr⟩
        have HPQ := Lib.hid (HPN.out.below hbq)
        have HBQ := Lib.hid (HBN.out.trans (hbq.mono HBN.out.size))
        have HD2Q := Lib.hid (fun x hx => (show ∃ r : RawE, (∀ z, D.atKey (.string x.print) z = .held (.agg r.cells.toArray)) ∧ ExMP Wq (fun k => m ≤ k ∧ k ≠ m) x r.cells by
          obtain ⟨r, h1, h2⟩ := HD2.out x hx
          exact ⟨r, h1, h2.below hbq⟩))
        have HOQ := Lib.hid HOQ
        clear hbq HOW HPN HBN HD2 HT1
        refine wpList_mapUpdate_own _ rfl _ _ _ 56 rfl 9 26 (string_keyed Tryd.underlying9) Tryd.underlying56 rawX m i D rfl HOQ.out (by unfold maxLen; omega) _ _ _ rfl rfl (key_ofX Pr (by have := HSZ.out; omega)) (.held (.agg (RawE.cells ⟨opz, ⟨vkz, vnz, vsz⟩, relz, colz, nz, sz, qz, lenz, cz⟩).toArray)) [] rfl ?_
        intro w1 hown1 hg1
        have HK : Pr.data.toList = S.print := by rw [HPr.out]
        rw [HK] at hown1
        have HMN := Lib.hid (MapX.put HOK.out HD1.out HD2Q.out HOQ.out.isMap HRN.out HPQ.out hown1 hg1)
        rw [← HT.out] at HMN
        have HBN := Lib.hid ((HB.out.trans (HBQ.out.mono HB.out.size)).trans (show Below w.heap.size Wq w1 from (Below.refl _ _).grown hg1 (Nat.le_trans HB.out.size HBQ.out.size) (fun k hk => by (have e : k = m := by simpa using hk.symm); have h5 := HMW.out; omega)))
        clear hown1 hg1 HK
        go_wp2_with fail
        go_roundw
        case rel => exact ⟨i + 1, by go_num, hlt, HMN.out, HBN.out, HTA.out⟩
        case measure => simp [intOf] <;> omega
    · have HE := Lib.hid (show L.take i = L by rw [show i = L.length by rw [← HLEN.out]; omega, List.take_length])
      rw [HE.out] at HM HA
      obtain rfl : i = len := by omega
      go_wp2_with fail
      refine bodyPost_ret (v := .tuple #[.map (some m), .int .i64 0]) (by simp [results, Tryd.results26, go_sem]) rfl ⟨.inl ⟨HA.out, m, rfl, by rw [HMW.out]; exact Nat.le_refl _, by rw [← HMW.out]; exact HM.out⟩, HB.out⟩
open Go.Shelf
def Tryd.laysM176_ren : Go.Shelf.Ren := ⟨fun | 176 => 32 | 249 => 46 | 288 => 59 | 283 => 67 | 284 => 68 | 285 => 69 | 286 => 70 | 129 => 81 | 317 => 84 | 318 => 85 | 319 => 86 | 320 => 87 | 337 => 95 | 338 => 96 | n => n, fun | 37 => 62 | 2 => 2 | 3 => 3 | 53 => 92 | 4 => 4 | 9 => 9 | 171 => 97 | 0 => 0 | 173 => 99 | 212 => 112 | 51 => 90 | 5 => 5 | 20 => 20 | 213 => 113 | 46 => 79 | 232 => 125 | 233 => 126 | n => n, fun | 17 => 1 | 18 => 2 | 19 => 3 | n => n⟩
theorem Tryd.laysM176 : Go.Proofs.LaysM.n176 Tryd.prog Tryd.laysM176_ren := {
  mixed := by kernel_rfl
  f129 := Tryd.func81.trans (congrArg some (by kernel_rfl))
  f176 := Tryd.func32.trans (congrArg some (by kernel_rfl))
  f249 := Tryd.func46.trans (congrArg some (by kernel_rfl))
  f283 := Tryd.func67.trans (congrArg some (by kernel_rfl))
  f284 := Tryd.func68.trans (congrArg some (by kernel_rfl))
  f285 := Tryd.func69.trans (congrArg some (by kernel_rfl))
  f286 := Tryd.func70.trans (congrArg some (by kernel_rfl))
  f288 := Tryd.func59.trans (congrArg some (by kernel_rfl))
  f317 := Tryd.func84.trans (congrArg some (by kernel_rfl))
  f318 := Tryd.func85.trans (congrArg some (by kernel_rfl))
  f319 := Tryd.func86.trans (congrArg some (by kernel_rfl))
  f320 := Tryd.func87.trans (congrArg some (by kernel_rfl))
  f337 := Tryd.func95.trans (congrArg some (by kernel_rfl))
  f338 := Tryd.func96.trans (congrArg some (by kernel_rfl))
  t0 := Tryd.underlying0
  a0 := Tryd.isAgg0
  z0 := Tryd.sizeOf0
  v0 := Tryd.zeroValue0
  t2 := Tryd.underlying2
  a2 := Tryd.isAgg2
  z2 := Tryd.sizeOf2
  v2 := Tryd.zeroValue2
  t3 := Tryd.underlying3
  a3 := Tryd.isAgg3
  z3 := Tryd.sizeOf3
  v3 := Tryd.zeroValue3
  t4 := Tryd.underlying4
  a4 := Tryd.isAgg4
  z4 := Tryd.sizeOf4
  v4 := Tryd.zeroValue4
  t5 := Tryd.underlying5
  a5 := Tryd.isAgg5
  z5 := Tryd.sizeOf5
  v5 := Tryd.zeroValue5
  t9 := Tryd.underlying9
  a9 := Tryd.isAgg9
  z9 := Tryd.sizeOf9
  v9 := Tryd.zeroValue9
  t20 := Tryd.underlying20
  a20 := Tryd.isAgg20
  z20 := Tryd.sizeOf20
  v20 := Tryd.zeroValue20
  t37 := Tryd.underlying62
  a37 := Tryd.isAgg62
  z37 := Tryd.sizeOf62
  v37 := Tryd.zeroValue62
  t46 := Tryd.underlying79
  a46 := Tryd.isAgg79
  z46 := Tryd.sizeOf79
  v46 := Tryd.zeroValue79
  t51 := Tryd.underlying90
  a51 := Tryd.isAgg90
  z51 := Tryd.sizeOf90
  v51 := Tryd.zeroValue90
  t53 := Tryd.underlying92
  a53 := Tryd.isAgg92
  z53 := Tryd.sizeOf92
  v53 := Tryd.zeroValue92
  t171 := Tryd.underlying97
  a171 := Tryd.isAgg97
  z171 := Tryd.sizeOf97
  v171 := Tryd.zeroValue97
  t173 := Tryd.underlying99
  a173 := Tryd.isAgg99
  z173 := Tryd.sizeOf99
  v173 := Tryd.zeroValue99
  t212 := Tryd.underlying112
  a212 := Tryd.isAgg112
  z212 := Tryd.sizeOf112
  v212 := Tryd.zeroValue112
  t213 := Tryd.underlying113
  a213 := Tryd.isAgg113
  z213 := Tryd.sizeOf113
  t232 := Tryd.underlying125
  a232 := Tryd.isAgg125
  z232 := Tryd.sizeOf125
  v232 := Tryd.zeroValue125
  t233 := Tryd.underlying126
  a233 := Tryd.isAgg126
  z233 := Tryd.sizeOf126
  v233 := Tryd.zeroValue126
  g17 := by kernel_rfl
  g18 := by kernel_rfl
  g19 := by kernel_rfl
  i0 := by kernel_rfl
  i2 := by kernel_rfl
  i3 := by kernel_rfl
  i4 := by kernel_rfl
  i5 := by kernel_rfl
  i9 := by kernel_rfl
  i20 := by kernel_rfl
  i37 := by kernel_rfl
  i46 := by kernel_rfl
  i51 := by kernel_rfl
  i53 := by kernel_rfl
  i171 := by kernel_rfl
  i173 := by kernel_rfl
  i212 := by kernel_rfl
  i232 := by kernel_rfl
  i233 := by kernel_rfl
  m17 := by kernel_rfl
  m18 := by kernel_rfl
  m19 := by kernel_rfl }
def Tryd.keys34_ren : Go.Shelf.Ren := ⟨fun | 7 => 34 | 10 => 49 | n => n, fun | 23 => 56 | 26 => 9 | 3 => 26 | 28 => 67 | 0 => 0 | 27 => 66 | 33 => 81 | 4 => 4 | n => n, fun | n => n⟩
theorem Tryd.keys34 : Go.Proofs.SlLaysZ.n7 Tryd.prog Tryd.keys34_ren := {
  mixed := by kernel_rfl
  f7 := ⟨Tryd.f34.name, by decide, Tryd.func34.trans (congrArg some (by kernel_rfl))⟩
  f10 := ⟨Tryd.f49.name, by decide, Tryd.func49.trans (congrArg some (by kernel_rfl))⟩
  t0 := Tryd.underlying0
  a0 := Tryd.isAgg0
  z0 := Tryd.sizeOf0
  v0 := Tryd.zeroValue0
  t4 := Tryd.underlying4
  a4 := Tryd.isAgg4
  z4 := Tryd.sizeOf4
  v4 := Tryd.zeroValue4
  t23 := Tryd.underlying56
  a23 := Tryd.isAgg56
  z23 := Tryd.sizeOf56
  v23 := Tryd.zeroValue56
  t26 := Tryd.underlying9
  a26 := Tryd.isAgg9
  z26 := Tryd.sizeOf9
  v26 := Tryd.zeroValue9
  t27 := Tryd.underlying66
  a27 := Tryd.isAgg66
  z27 := Tryd.sizeOf66
  v27 := Tryd.zeroValue66
  t28 := Tryd.underlying67
  a28 := Tryd.isAgg67
  z28 := Tryd.sizeOf67
  v28 := Tryd.zeroValue67
  t33 := Tryd.underlying81
  a33 := Tryd.isAgg81
  z33 := Tryd.sizeOf81
  v33 := Tryd.zeroValue81 }
def Tryd.sorted33_ren : Go.Shelf.Ren := ⟨fun | 6 => 33 | 8 => 47 | 9 => 48 | 11 => 60 | 13 => 62 | 12 => 61 | 23 => 80 | 24 => 81 | 14 => 71 | 15 => 72 | 16 => 73 | 17 => 74 | 18 => 75 | 19 => 76 | 20 => 77 | 21 => 78 | 22 => 79 | 25 => 88 | 26 => 89 | 27 => 90 | 28 => 91 | 29 => 92 | 30 => 93 | 31 => 97 | n => n, fun | 26 => 9 | 28 => 67 | 24 => 64 | 0 => 0 | 3 => 3 | 37 => 79 | 48 => 90 | 50 => 92 | 4 => 4 | 40 => 103 | 39 => 102 | 45 => 108 | 5 => 5 | 9 => 9 | 51 => 115 | 55 => 119 | 57 => 122 | 58 => 123 | 33 => 81 | n => n, fun | n => n⟩
theorem Tryd.sorted33 : Go.Proofs.SlLaysZ.n6 Tryd.prog Tryd.sorted33_ren := {
  mixed := by kernel_rfl
  f6 := ⟨Tryd.f33.name, by decide, Tryd.func33.trans (congrArg some (by kernel_rfl))⟩
  f8 := ⟨Tryd.f47.name, by decide, Tryd.func47.trans (congrArg some (by kernel_rfl))⟩
  f11 := ⟨Tryd.f60.name, by decide, Tryd.func60.trans (congrArg some (by kernel_rfl))⟩
  t0 := Tryd.underlying0
  a0 := Tryd.isAgg0
  z0 := Tryd.sizeOf0
  v0 := Tryd.zeroValue0
  t24 := Tryd.underlying64
  a24 := Tryd.isAgg64
  z24 := Tryd.sizeOf64
  v24 := Tryd.zeroValue64
  t26 := Tryd.underlying9
  a26 := Tryd.isAgg9
  z26 := Tryd.sizeOf9
  v26 := Tryd.zeroValue9
  t28 := Tryd.underlying67
  a28 := Tryd.isAgg67
  z28 := Tryd.sizeOf67
  v28 := Tryd.zeroValue67
  i26 := by kernel_rfl }
def Tryd.sort48_ren : Go.Shelf.Ren := ⟨fun | 6 => 48 | 8 => 62 | 9 => 61 | 19 => 80 | 20 => 81 | 21 => 71 | 22 => 72 | 23 => 73 | 24 => 74 | 25 => 75 | 26 => 76 | 27 => 77 | 28 => 78 | 29 => 79 | 36 => 88 | 31 => 89 | 32 => 90 | 37 => 91 | 38 => 92 | 39 => 93 | 41 => 97 | n => n, fun | 27 => 64 | 29 => 9 | 3 => 3 | 32 => 79 | 26 => 64 | 0 => 0 | 44 => 90 | 46 => 92 | 4 => 4 | 36 => 103 | 35 => 102 | 41 => 108 | 5 => 5 | 9 => 9 | 53 => 115 | 57 => 119 | 63 => 122 | 64 => 123 | n => n, fun | n => n⟩
theorem Tryd.sort48 : Go.Proofs.SlLaysM.n6 Tryd.prog Tryd.sort48_ren := {
  mixed := by kernel_rfl
  f6 := ⟨Tryd.f48.name, by decide, Tryd.func48.trans (congrArg some (by kernel_rfl))⟩
  f8 := Tryd.func62.trans (congrArg some (by kernel_rfl))
  f9 := ⟨Tryd.f61.name, by decide, Tryd.func61.trans (congrArg some (by kernel_rfl))⟩
  f19 := Tryd.func80.trans (congrArg some (by kernel_rfl))
  f20 := Tryd.func81.trans (congrArg some (by kernel_rfl))
  f21 := ⟨Tryd.f71.name, by decide, Tryd.func71.trans (congrArg some (by kernel_rfl))⟩
  f22 := ⟨Tryd.f72.name, by decide, Tryd.func72.trans (congrArg some (by kernel_rfl))⟩
  f23 := ⟨Tryd.f73.name, by decide, Tryd.func73.trans (congrArg some (by kernel_rfl))⟩
  f24 := ⟨Tryd.f74.name, by decide, Tryd.func74.trans (congrArg some (by kernel_rfl))⟩
  f25 := ⟨Tryd.f75.name, by decide, Tryd.func75.trans (congrArg some (by kernel_rfl))⟩
  f26 := ⟨Tryd.f76.name, by decide, Tryd.func76.trans (congrArg some (by kernel_rfl))⟩
  f27 := ⟨Tryd.f77.name, by decide, Tryd.func77.trans (congrArg some (by kernel_rfl))⟩
  f28 := ⟨Tryd.f78.name, by decide, Tryd.func78.trans (congrArg some (by kernel_rfl))⟩
  f29 := ⟨Tryd.f79.name, by decide, Tryd.func79.trans (congrArg some (by kernel_rfl))⟩
  f31 := Tryd.func89.trans (congrArg some (by kernel_rfl))
  f32 := Tryd.func90.trans (congrArg some (by kernel_rfl))
  f36 := ⟨Tryd.f88.name, by decide, Tryd.func88.trans (congrArg some (by kernel_rfl))⟩
  f37 := ⟨Tryd.f91.name, by decide, Tryd.func91.trans (congrArg some (by kernel_rfl))⟩
  f38 := ⟨Tryd.f92.name, by decide, Tryd.func92.trans (congrArg some (by kernel_rfl))⟩
  f39 := ⟨Tryd.f93.name, by decide, Tryd.func93.trans (congrArg some (by kernel_rfl))⟩
  f41 := ⟨Tryd.f97.name, by decide, Tryd.func97.trans (congrArg some (by kernel_rfl))⟩
  t0 := Tryd.underlying0
  a0 := Tryd.isAgg0
  z0 := Tryd.sizeOf0
  v0 := Tryd.zeroValue0
  t3 := Tryd.underlying3
  a3 := Tryd.isAgg3
  z3 := Tryd.sizeOf3
  v3 := Tryd.zeroValue3
  t4 := Tryd.underlying4
  a4 := Tryd.isAgg4
  z4 := Tryd.sizeOf4
  v4 := Tryd.zeroValue4
  t5 := Tryd.underlying5
  a5 := Tryd.isAgg5
  z5 := Tryd.sizeOf5
  v5 := Tryd.zeroValue5
  t9 := Tryd.underlying9
  a9 := Tryd.isAgg9
  z9 := Tryd.sizeOf9
  v9 := Tryd.zeroValue9
  t26 := Tryd.underlying64
  a26 := Tryd.isAgg64
  z26 := Tryd.sizeOf64
  v26 := Tryd.zeroValue64
  t27 := Tryd.underlying64
  a27 := Tryd.isAgg64
  z27 := Tryd.sizeOf64
  v27 := Tryd.zeroValue64
  t29 := Tryd.underlying9
  a29 := Tryd.isAgg9
  z29 := Tryd.sizeOf9
  v29 := Tryd.zeroValue9
  t32 := Tryd.underlying79
  a32 := Tryd.isAgg79
  z32 := Tryd.sizeOf79
  v32 := Tryd.zeroValue79
  t35 := Tryd.underlying102
  a35 := Tryd.isAgg102
  z35 := Tryd.sizeOf102
  v35 := Tryd.zeroValue102
  t36 := Tryd.underlying103
  a36 := Tryd.isAgg103
  z36 := Tryd.sizeOf103
  v36 := Tryd.zeroValue103
  t41 := Tryd.underlying108
  a41 := Tryd.isAgg108
  z41 := Tryd.sizeOf108
  v41 := Tryd.zeroValue108
  t44 := Tryd.underlying90
  a44 := Tryd.isAgg90
  z44 := Tryd.sizeOf90
  v44 := Tryd.zeroValue90
  t46 := Tryd.underlying92
  a46 := Tryd.isAgg92
  z46 := Tryd.sizeOf92
  v46 := Tryd.zeroValue92
  t53 := Tryd.underlying115
  a53 := Tryd.isAgg115
  z53 := Tryd.sizeOf115
  v53 := Tryd.zeroValue115
  t57 := Tryd.underlying119
  a57 := Tryd.isAgg119
  z57 := Tryd.sizeOf119
  v57 := Tryd.zeroValue119
  t63 := Tryd.underlying122
  a63 := Tryd.isAgg122
  z63 := Tryd.sizeOf122
  v63 := Tryd.zeroValue122
  t64 := Tryd.underlying123
  a64 := Tryd.isAgg123
  z64 := Tryd.sizeOf123
  v64 := Tryd.zeroValue123 }
end Go.Proofs.YtklgoajgchfmeaaDoor
