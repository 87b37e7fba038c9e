/- A part of the proof. -/
import Derived.Test.YtklgoajgchfmeaaDoorKe
import Derived.Test.YtklgoajgchfmeaaDoorKb
import Derived.Deep.RegionWith
set_option linter.unusedVariables false
set_option linter.unusedSimpArgs false
namespace Go.Proofs.YtklgoajgchfmeaaDoor
open Go.RowKit Go.Deep
set_option maxRecDepth 100000
def OwnX (w : World) (b : Nat) (P : Nat → Prop) (v : Value) (L : List Ex) : Prop :=
  ∃ K : List RawE, OwnE w b v K ∧ K.length = L.length ∧ ∀ (j : Nat) (r : RawE) (x : Ex), K[j]? = some r → L[j]? = some x → ExMP w (fun k => P k ∧ v.ownBlock ≠ some k) x r.cells
theorem OwnX.nil (w : World) (b : Nat) (P : Nat → Prop) : OwnX w b P (.slice none 0 0) [] := ⟨[], OwnF.nil _ _ _, rfl, fun j r x h _ => by simp at h⟩
theorem OwnX.later {w w' : World} {b : Nat} {P : Nat → Prop} {v : Value} {L : List Ex} (h : OwnX w b P v L) (hb : Below w.heap.size w w') : OwnX w' b P v L := by
  obtain ⟨K, h1, h2, h3⟩ := h
  exact ⟨K, h1.later hb, h2, fun j r x hr hx => (h3 j r x hr hx).below hb⟩
theorem OwnX.outs {S : Nat → Prop} {w w' : World} {b : Nat} {P : Nat → Prop} {v : Value} {L : List Ex} (h : OwnX w b P v L) (o : Out S w w') (h1 : ∀ k, S k → v.ownBlock ≠ some k) (h2 : ∀ k, S k → ¬ P k) : OwnX w' b P v L := by
  obtain ⟨K, h3, h4, h5⟩ := h
  exact ⟨K, h3.kept o h1, h4, fun j r x hr hx => ExMP.on o.size (fun k hk hkw => o.block k hkw fun e => h2 k e hk.1) (fun _ h _ => h) _ _ (h5 j r x hr hx)⟩
theorem OwnX.weaken {w : World} {b b' : Nat} {P Q : Nat → Prop} {v : Value} {L : List Ex} (h : OwnX w b P v L) (hb : b' ≤ b) (hQ : ∀ k, P k → k < w.heap.size → Q k) : OwnX w b' Q v L := by
  obtain ⟨K, h1, h2, h3⟩ := h
  exact ⟨K, h1.base_le hb, h2, fun j r x hr hx => ExMP.on (Nat.le_refl _) (fun _ _ _ => rfl) (fun k hk hkw => ⟨hQ k hk.1 hkw, hk.2⟩) _ _ (h3 j r x hr hx)⟩
theorem OwnX.toP {w : World} {b : Nat} {P Q : Nat → Prop} {v : Value} {L : List Ex} (h : OwnX w b P v L) (hP : ∀ k, P k → k < w.heap.size → Q k) (hb : ∀ k, b ≤ k → k < w.heap.size → Q k) : ∃ q c, v = .slice q L.length c ∧ L.length ≤ c ∧ c ≤ 9223372036854775807 ∧ ExLP w Q q 0 L := by
  obtain ⟨K, h1, h2, h3⟩ := h
  obtain ⟨q, c, rfl, hlc, hc, -, hA⟩ := OwnF.arr RawE.cells_len h1
  refine ⟨q, c, by rw [h2], by rw [← h2]; exact hlc, hc, ExLP.of fun j y hy => ?_⟩
  have hj : j < K.length := by rw [h2]; exact (List.getElem?_eq_some_iff.1 hy).1
  have hr : K[j]? = some (K[j]'hj) := List.getElem?_eq_getElem hj
  obtain ⟨g, o, hq, hbg, hg, hcell⟩ := hA j hj
  refine ⟨g, o, _, hq, hg, hb g hbg hg, ExMP.on (Nat.le_refl _) (fun _ _ _ => rfl) (fun k hk hkw => hP k hk.1 hkw) _ _ (h3 j _ y hr hy), fun k u hu => ?_⟩
  rw [Nat.zero_add]
  exact hcell j _ hr k u hu
theorem OwnX.toL {w : World} {b : Nat} {P : Nat → Prop} {v : Value} {L : List Ex} (h : OwnX w b P v L) : ∃ q c, v = .slice q L.length c ∧ L.length ≤ c ∧ c ≤ 9223372036854775807 ∧ ExL w q 0 L := by
  obtain ⟨q, c, h1, h2, h3, h4⟩ := h.toP (Q := fun _ => True) (fun _ _ _ => trivial) (fun _ _ _ => trivial)
  exact ⟨q, c, h1, h2, h3, ExLP.toL _ _ _ h4⟩
theorem OwnX.lt {w : World} {b : Nat} {P : Nat → Prop} {v : Value} {L : List Ex} (h : OwnX w b P v L) (k : Nat) (hk : v.ownBlock = some k) : b ≤ k ∧ k < w.heap.size := by
  obtain ⟨K, h1, -, -⟩ := h
  exact World.ownsRow.lt h1 k hk
theorem wp_append_x {w : World} {ops : Array Oper} {rest : List Oper} {o : Oper} {a : Act} {Q : Exit → Act → World → Prop} (hgd : o.guard = none) (s x : Operand)
    (ho : o.op = .call { callee := .builtin .append, args := #[s, x], argTypes := #[24, 24] }) (b : Nat) (P : Nat → Prop) (v : Value) (L : List Ex) (hs : a.eval s = v) (hL : OwnX w b P v L) (nn : Nat) (hnn : nn = L.length)
    (r : RawE) (y : Ex) (p : Option Addr) (cp lo hi : Nat) (hx : a.eval x = .slice p 1 cp) (hR : ArrA lo hi p 9 [r] (fun g o r => ∀ (k : Nat) u, r.cells[k]? = some u → w.cell? ⟨g, o + k, none⟩ = some u))
    (hy : ExMP w (fun k => P k ∧ v.ownBlock ≠ some k) y r.cells) (hn : (nn + 1) * 104 ≤ 140737488355328) (hb : b ≤ w.heap.size)
    (h : ∀ q c w', OwnX w' b P (.slice q (nn + 1) c) (L ++ [y]) → Below b w w' → Out (fun k => v.ownBlock = some k) w w' → wpList Tryd.prog ops Q rest (a.put o.dst (.slice q (nn + 1) c)) w') : wpList Tryd.prog ops Q (o :: rest) a w := by
  subst hnn
  obtain ⟨K, h1, h2, h3⟩ := hL
  obtain ⟨v', w', hr, h4, h5, h6, h7⟩ := run_append_flat w 24 26 o.type Tryd.underlying24 _ 104 Tryd.infoExpr8 rfl (by decide) RawE.cells_len RawE.cells_one b v K h1 p 1 cp [r] rfl lo hi hR (by rw [h2]; simp only [List.length_cons, List.length_nil]; unfold maxLen; omega) (by rw [h2]; simpa using hn) hb
  obtain ⟨q, c, e, -⟩ := OwnF.arr RawE.cells_len h4
  have el : (K ++ [r]).length = L.length + 1 := by simp [h2]
  rw [el] at e
  subst e
  refine wpList_plain hgd fun KK hK => ?_
  unfold Oper.wp execOp
  simp only [ho, resolve, invoke, builtin, Sem.run_bind, Sem.run_pure, Result.andThen_ok, List.map_toArray, List.map_cons, List.map_nil, hs, hx, hr]
  refine hK _ _ (h q c w' ⟨K ++ [r], h4, by simp [h2], fun j r0 z hr0 hz => ?_⟩ h5 h6)
  have hP : ∀ (y : Ex) (cs : List Value), ExMP w (fun k => P k ∧ v.ownBlock ≠ some k) y cs → ExMP w' (fun k => P k ∧ (Value.slice q (L.length + 1) c).ownBlock ≠ some k) y cs := fun y cs hy => ExMP.on h6.size (fun k hk hkw => h6.block k hkw hk.2) (fun k hk hkw => ⟨hk.1, fun e => by
    rcases h7 with h7 | h7
    · rw [h7] at e; exact hk.2 e
    · rw [h7] at e; cases e; exact Nat.lt_irrefl _ hkw⟩) y cs hy
  by_cases hj : j < K.length
  · rw [List.getElem?_append_left hj] at hr0
    rw [List.getElem?_append_left (by omega)] at hz
    exact hP _ _ (h3 j r0 z hr0 hz)
  · have hjk : j = K.length := by
      have := (List.getElem?_eq_some_iff.1 hr0).1
      simp at this
      omega
    rw [hjk, List.getElem?_append_right (Nat.le_refl _), Nat.sub_self] at hr0
    rw [hjk, h2, List.getElem?_append_right (Nat.le_refl _), Nat.sub_self] at hz
    simp at hr0 hz
    subst hr0 hz
    exact hP _ _ hy
def MakesE (w : World) (f : Nat) (caps : List Value) (F : Ex → Ex) (l : List Ex) : Prop :=
  ∀ y ∈ l, ∀ (W : World) (cs : List Value), Below w.heap.size w W → ExM W y cs → Calls Tryd.prog f (Value.agg cs.toArray :: caps).toArray W fun e W' => (∃ cs' : List Value, e = .returned (.agg cs'.toArray) ∧ ExMP W' (fun g => W.heap.size ≤ g) (F y) cs') ∧ Below W.heap.size W W'
set_option maxHeartbeats 8000000 in
theorem changed_any (f : Nat) (caps : List Value) (F : Ex → Ex) (l : List Ex) (q : Option Addr) (c : Nat) (w : World) (hl : ExL w q 0 l) (hn : l.length * 104 ≤ 140737488355328) (hF : MakesE w f caps F l)
    (hen : ∀ (vals : Array Value) (W : World), (callFunc f vals).run Tryd.prog W = .ok (.enter f vals) W) :
    Calls Tryd.prog 38 #[.slice q l.length c, .func (.func f) #[] caps.toArray] w fun e w' => (∃ v, e = .returned v ∧ OwnX w' w.heap.size (fun k => w.heap.size ≤ k) v (l.map F)) ∧ Below w.heap.size w w' := by
  have HL := Lib.hid hl
  have HF := Lib.hid hF
  obtain ⟨len, hlen⟩ : ∃ len, len = l.length := ⟨_, rfl⟩
  rw [← hlen] at hn ⊢
  have HLEN := Lib.hid hlen
  clear hl hF hlen
  go_enter Tryd.func38, Tryd.ntmps38
  go_wp2_with fail
  go_loopw [5, 10] (fun v5 v10 wr => ∃ i : Nat, v10 = .int .i64 i ∧ i ≤ len ∧ Hid (OwnX wr w.heap.size (fun k => w.heap.size ≤ k) v5 ((l.take i).map F) ∧ Below w.heap.size w wr)) (fun _ v10 _ => ((len : Int) - intOf v10).toNat)
  case atStart => exact ⟨0, rfl, Nat.zero_le _, OwnX.nil _ _ _, Below.refl _ _⟩
  case round =>
    obtain ⟨i, rfl, hi, HH⟩ := hrel
    obtain ⟨V, hV⟩ : ∃ V, V = wr := ⟨_, rfl⟩
    rw [← hV] at HH
    rw [← hV]
    clear hV
    have HO := Lib.hid HH.out.1
    have HB := Lib.hid HH.out.2
    clear HH
    by_cases hlt : i < len
    · obtain ⟨y, hy⟩ : ∃ y, l[i]? = some y := ⟨_, List.getElem?_eq_getElem (by rw [← HLEN.out]; exact hlt)⟩
      have hl_ := ExL.at_ (ExL.ext HB.out _ _ _ HL.out) hy
      obtain ⟨g0, off0, cs0, hq0, hg0, hx0, hcell⟩ := hl_
      subst hq0
      have HX0 := Lib.hid hx0
      have HFY := Lib.hid (HF.out y (List.mem_of_getElem? hy))
      have HT := Lib.hid (show (l.take (i + 1)).map F = (l.take i).map F ++ [F y] by rw [take_snoc hy, List.map_append]; rfl)
      have HTL := Lib.hid (show ((l.take i).map F).length = i by rw [List.length_map, List.length_take]; have := HLEN.out; omega)
      clear hy
      obtain ⟨op1, v1, rel1, col1, n1, s1, l1⟩ := y
      rw [ExM.iff] at hx0
      obtain ⟨-, qq0, cc0, rfl, -, -⟩ := hx0
      have f0 := hcell 0 _ rfl
      have f1 := hcell 1 _ rfl
      have f2 := hcell 2 _ rfl
      have f3 := hcell 3 _ rfl
      have f4 := hcell 4 _ rfl
      have f5 := hcell 5 _ rfl
      have f6 := hcell 6 _ rfl
      have f7 := hcell 7 _ rfl
      have f8 := hcell 8 _ rfl
      simp only [Nat.zero_add, Nat.add_zero] at f0 f1 f2 f3 f4 f5 f6 f7 f8
      clear hcell
      have z0 : V.heap.size < (V.alloc (.cells (exCells op1 v1 rel1 col1 n1 s1 qq0 l1.length cc0).toArray 26)).heap.size := by simp
      go_wp2_with fail
      have B1 : Below V.heap.size V (V.alloc (.cells (exCells op1 v1 rel1 col1 n1 s1 qq0 l1.length cc0).toArray 26)) := ext_alloc (ext_refl _) _
      refine (HFY.out (V.alloc (.cells (exCells op1 v1 rel1 col1 n1 s1 qq0 l1.length cc0).toArray 26)) _ (HB.out.trans (B1.mono HB.out.size)) (ExM.ext B1 _ _ HX0.out)).mono ?_
      rintro e X ⟨⟨cs', rfl, hX⟩, hbX⟩
      have HXM := Lib.hid hX
      have HBX := Lib.hid (B1.trans (hbX.mono B1.size))
      obtain ⟨r', rfl⟩ := hX.raw
      have HZ := Lib.hid z0
      clear hX hbX B1 z0 f0 f1 f2 f3 f4 f5 f6 f7 f8
      obtain ⟨op2, ⟨vk2, vn2, vs2⟩, rel2, col2, n2, s2, q2, len2, c2⟩ := r'
      have HO2 := Lib.hid ((HO.out.later HBX.out).later (ext_alloc (ext_refl X) (.cells (exCells op2 ⟨vk2, vn2, vs2⟩ rel2 col2 n2 s2 q2 len2 c2).toArray 26)))
      have B2 := Lib.hid (HBX.out.trans ((ext_alloc (ext_refl X) (.cells (exCells op2 ⟨vk2, vn2, vs2⟩ rel2 col2 n2 s2 q2 len2 c2).toArray 26)).mono HBX.out.size))
      obtain ⟨S, hS⟩ : ∃ S, S = F (.mk op1 v1 rel1 col1 n1 s1 l1) := ⟨_, rfl⟩
      rw [← hS] at HXM HT
      obtain ⟨M, hM⟩ : ∃ M, M = (l.take i).map F := ⟨_, rfl⟩
      rw [← hM] at HO2 HT HTL HO
      clear hS hM
      go_wp2_with (at_builtin; refine wp_append_x rfl _ _ rfl w.heap.size (fun k => w.heap.size ≤ k) _ M rfl HO2.out i HTL.out.symm ⟨op2, ⟨vk2, vn2, vs2⟩, rel2, col2, n2, s2, q2, len2, c2⟩ S _ _ 0 (X.heap.size + 1) rfl (one_block RawE.cells_len 26 _ ⟨op2, ⟨vk2, vn2, vs2⟩, rel2, col2, n2, s2, q2, len2, c2⟩ rfl _ rfl) ?k1 ?k2 ?k3 ?_)
      case k1 =>
        refine ExMP.on (by simp) (fun k _ hk => (ext_alloc (ext_refl X) _).block k hk) (fun k hk _ => ⟨?_, fun e => ?_⟩) _ _ HXM.out
        · have h1 := HB.out.size
          have h2 := HZ.out
          have hk : _ ≤ k := hk
          omega
        · have h1 := (HO.out.lt k e).2
          have h2 := HZ.out
          have hk : _ ≤ k := hk
          omega
      case k2 => omega
      case k3 => exact Nat.le_trans HB.out.size B2.out.size
      intro q3 c3 Y hO hbY hoY
      rw [← HT.out] at hO
      have HN := Lib.hid hO
      have HBY := Lib.hid ((HB.out.trans (B2.out.mono HB.out.size)).trans hbY)
      clear hO hbY hoY HO HO2 HB B2 HBX HX0 HXM HZ HFY
      go_wp2_with fail
      go_roundw
      case rel => exact ⟨i + 1, by go_num, hlt, HN.out, HBY.out⟩
      case measure => simp [intOf] <;> omega
    · have HE := Lib.hid (show (l.take i).map F = l.map F by rw [show i = l.length by rw [← HLEN.out]; omega, List.take_length])
      go_wp2_with fail
      refine bodyPost_ret (v := u5) (by simp [results, Tryd.results38, go_sem]) rfl ⟨⟨_, rfl, by rw [← HE.out]; exact HO.out⟩, HB.out⟩
set_option maxHeartbeats 8000000 in
theorem exchange_any (b g c : Nat) (r0 r1 : RawE) (w : World) (hO : OwnE w b (.slice (some ⟨g, 0, none⟩) 2 c) [r0, r1]) :
    Calls Tryd.prog 39 #[.slice (some ⟨g, 0, none⟩) 2 c] w fun e w' => e = .returned (.tuple #[]) ∧ OwnE w' b (.slice (some ⟨g, 0, none⟩) 2 c) [r1, r0] ∧ Out (fun k => k = g) w w' := by
  have HO := Lib.hid hO
  have e0 := fun k u hu => OwnF.cellAt RawE.cells_len hO (j := 0) (x := r0) rfl (k := k) (u := u) hu
  have e1 := fun k u hu => OwnF.cellAt RawE.cells_len hO (j := 1) (x := r1) rfl (k := k) (u := u) hu
  obtain ⟨op, ⟨vk, vn, vs⟩, rel, col, nn, s, q, len, cc⟩ := r0
  obtain ⟨op', ⟨vk', vn', vs'⟩, rel', col', nn', s', q', len', cc'⟩ := r1
  have f0 := (e0 0 _ rfl).1
  have f1 := (e0 1 _ rfl).1
  have f2 := (e0 2 _ rfl).1
  have f3 := (e0 3 _ rfl).1
  have f4 := (e0 4 _ rfl).1
  have f5 := (e0 5 _ rfl).1
  have f6 := (e0 6 _ rfl).1
  have f7 := (e0 7 _ rfl).1
  have f8 := (e0 8 _ rfl).1
  have h0 := (e1 0 _ rfl).1
  have h1 := (e1 1 _ rfl).1
  have h2 := (e1 2 _ rfl).1
  have h3 := (e1 3 _ rfl).1
  have h4 := (e1 4 _ rfl).1
  have h5 := (e1 5 _ rfl).1
  have h6 := (e1 6 _ rfl).1
  have h7 := (e1 7 _ rfl).1
  have h8 := (e1 8 _ rfl).1
  have hf := (e0 0 _ rfl).2
  simp only [Nat.zero_mul, Nat.one_mul, Nat.zero_add, Nat.add_zero, Nat.reduceAdd] at f0 f1 f2 f3 f4 f5 f6 f7 f8 h0 h1 h2 h3 h4 h5 h6 h7 h8 hf
  clear e0 e1 hO
  go_enter Tryd.func39, Tryd.ntmps39
  go_wp2_with fail
  go_region
  have O1 := OwnE.setAll (i := 0) ⟨op', ⟨vk', vn', vs'⟩, rel', col', nn', s', q', len', cc'⟩ HO.out (by simp)
  have O2 := OwnE.setAll (i := 1) ⟨op, ⟨vk, vn, vs⟩, rel, col, nn, s, q, len, cc⟩ O1 (by simp)
  have hout := (setE_out w g (0 * 9) ⟨op', ⟨vk', vn', vs'⟩, rel', col', nn', s', q', len', cc'⟩).trans (setE_out _ g (1 * 9) ⟨op, ⟨vk, vn, vs⟩, rel, col, nn, s, q, len, cc⟩)
  simp only [setE, Nat.zero_mul, Nat.one_mul, Nat.zero_add, Nat.reduceAdd, List.set_cons_zero, List.set_cons_succ] at O2 hout
  clear O1 f0 f1 f2 f3 f4 f5 f6 f7 f8 h0 h1 h2 h3 h4 h5 h6 h7 h8 hf HO
  revert O2 hout
  generalize World.setCell _ _ _ = M
  intro O2 hout
  exact bodyPost_end (results_none (by rfl) _ _ _) rfl ⟨rfl, O2.later (ext_drew (ext_refl _)), hout.trans (Out.drew _)⟩
open Go.Lib
def dig (b : UInt8) : Bool := decide (48 ≤ b.toNat) && decide (b.toNat ≤ 57)
def Stops (r : Bs) : Prop := ∀ b t, r = b :: t → dig b = false
theorem Stops.cons {b : UInt8} {r : Bs} (h : dig b = false) : Stops (b :: r) := fun _ _ e => by cases e; exact h
theorem Stops.nil : Stops [] := fun _ _ e => by cases e
def valOf (l : Bs) : Nat := l.foldl (fun a b => a * 10 + (b.toNat - 48)) 0
theorem u8_nat {k : Nat} (h : k < 256) : (UInt8.ofNat k).toNat = k := by
  first
    | exact UInt8.toNat_ofNat_of_lt' h
    | (simp [UInt8.toNat_ofNat']; omega)
    | (simp; omega)
theorem dig_of {d : Nat} (h : d < 10) : dig (UInt8.ofNat (48 + d)) = true := by
  unfold dig
  rw [u8_nat (by omega), decide_eq_true (by omega), decide_eq_true (by omega)]
  rfl
theorem dec_dig (n : Nat) : ∀ b ∈ decDigits n, dig b = true := by
  induction n using Nat.strongRecOn with
  | _ n ih =>
    intro b hb
    rw [decDigits] at hb
    split at hb
    · rw [List.mem_singleton] at hb
      subst hb
      exact dig_of (by omega)
    · rcases List.mem_append.1 hb with hb | hb
      · exact ih (n / 10) (by omega) b hb
      · rw [List.mem_singleton] at hb
        subst hb
        exact dig_of (by omega)
theorem dec_val (n : Nat) : valOf (decDigits n) = n := by
  induction n using Nat.strongRecOn with
  | _ n ih =>
    rw [decDigits]
    split
    · simp only [valOf, List.foldl_cons, List.foldl_nil]
      rw [u8_nat (by omega)]
      omega
    · have h := ih (n / 10) (by omega)
      unfold valOf at h ⊢
      rw [List.foldl_append, h]
      simp only [List.foldl_cons, List.foldl_nil]
      rw [u8_nat (by omega)]
      omega
theorem dec_span {l r : Bs} (h : ∀ b ∈ l, dig b = true) (hr : Stops r) : (l ++ r).takeWhile dig = l := by
  induction l with
  | nil =>
    cases r with
    | nil => rfl
    | cons b t => rw [List.nil_append, List.takeWhile_cons, hr b t rfl]; rfl
  | cons a l ih =>
    rw [List.cons_append, List.takeWhile_cons, h a (by simp), if_pos rfl, ih fun b hb => h b (by simp [hb])]
theorem dec_cut {a b : Nat} {r t : Bs} (h : decDigits a ++ r = decDigits b ++ t) (hr : Stops r) (ht : Stops t) : a = b ∧ r = t := by
  have e1 := dec_span (dec_dig a) hr
  have e2 := dec_span (dec_dig b) ht
  rw [h, e2] at e1
  have e3 : a = b := by rw [← dec_val a, ← dec_val b, e1]
  subst e3
  exact ⟨rfl, List.append_cancel_left h⟩
theorem dec_first (n : Nat) : ∃ b t, decDigits n = b :: t ∧ dig b = true := by
  have hd := dec_dig n
  cases hl : decDigits n with
  | nil =>
    have h := decDigits_length n
    rw [hl] at h
    have := nDigits_pos n
    simp at h
    omega
  | cons b t => exact ⟨b, t, rfl, hd b (by rw [hl]; simp)⟩
theorem itoa_cut {a b : Int} {r t : Bs} (h : itoa a ++ r = itoa b ++ t) (hr : Stops r) (ht : Stops t) : a = b ∧ r = t := by
  have d45 : dig 45 = false := by decide
  unfold itoa at h
  split at h
  · split at h
    · simp only [List.cons_append, List.cons.injEq, true_and] at h
      obtain ⟨e, e2⟩ := dec_cut h hr ht
      exact ⟨by omega, e2⟩
    · obtain ⟨x, u, e, hx⟩ := dec_first b.toNat
      rw [e] at h
      simp only [List.cons_append, List.cons.injEq] at h
      rw [← h.1, d45] at hx
      cases hx
  · split at h
    · obtain ⟨x, u, e, hx⟩ := dec_first a.toNat
      rw [e] at h
      simp only [List.cons_append, List.cons.injEq] at h
      rw [h.1, d45] at hx
      cases hx
    · obtain ⟨e, e2⟩ := dec_cut h hr ht
      exact ⟨by omega, e2⟩
theorem zero_shape {v : Val} (h : isZeroV v = true) : v.k = 0 ∧ v.n = 0 ∧ v.s.toList = [] := by
  simpa [isZeroV, and_assoc] using h
theorem head_shape {op : Int} {v : Val} {rel col n : Int} {s : ByteArray} {len : Nat} (h : headOk op v rel col n s len = true) : s.toList = [] ∧
    ((op = 1 ∧ rel = 0 ∧ col = 0 ∧ n = 0 ∧ len = 0 ∧ v.right = true) ∨ (op = 2 ∧ isZeroV v = true ∧ n = 0 ∧ len = 0) ∨ (op = 3 ∧ isZeroV v = true ∧ rel = 0 ∧ col = 0 ∧ len = 0) ∨ (4 ≤ op ∧ op ≤ 18 ∧ isZeroV v = true ∧ rel = 0 ∧ col = 0 ∧ n = 0 ∧ (len : Int) = wantsOf op)) := by
  unfold headOk at h
  simp only [Bool.and_eq_true, beq_iff_eq, Bool.or_eq_true] at h
  obtain ⟨⟨⟨⟨⟨h1, h2⟩, h3⟩, h4⟩, h5⟩, h6⟩ := h
  refine ⟨h2, ?_⟩
  have hr : 1 ≤ op ∧ op ≤ 18 := by
    unfold wantsOf at h1
    split at h1 <;> omega
  by_cases e1 : op = 1
  · subst e1
    simp [wantsOf] at h1 h5 h6
    exact .inl ⟨rfl, h5.1, h5.2, h6, by omega, h3⟩
  · have hz : isZeroV v = true := h4.resolve_left e1
    by_cases e2 : op = 2
    · subst e2
      simp [wantsOf] at h1 h6
      exact .inr (.inl ⟨rfl, hz, h6, by omega⟩)
    · rw [if_neg e2] at h5
      simp only [Bool.and_eq_true, beq_iff_eq] at h5
      by_cases e3 : op = 3
      · subst e3
        simp [wantsOf] at h1
        exact .inr (.inr (.inl ⟨rfl, hz, h5.1, h5.2, by omega⟩))
      · rw [if_neg e3, beq_iff_eq] at h6
        exact .inr (.inr (.inr ⟨by omega, hr.2, hz, h5.1, h5.2, h6, h1.symm⟩))
def printV (v : Val) : Bs := if v.k = 0 then [78] else if v.k = 1 then 73 :: itoa v.n else if v.k = 2 then 66 :: itoa v.n else 84 :: itoa v.s.size ++ [58] ++ v.s.data.toList
theorem right_shape {v : Val} (h : v.right = true) : (v.k = 0 ∧ v.n = 0 ∧ v.s.toList = []) ∨ (v.k = 1 ∧ v.s.toList = []) ∨ (v.k = 2 ∧ v.s.toList = []) ∨ (v.k = 3 ∧ v.n = 0) := by
  unfold Val.right at h
  split at h
  · simp at h; exact .inl ⟨‹_›, h.1, h.2⟩
  · split at h
    · simp at h; exact .inr (.inl ⟨‹_›, h⟩)
    · split at h
      · simp at h; exact .inr (.inr (.inl ⟨‹_›, h.2⟩))
      · split at h
        · simp at h; exact .inr (.inr (.inr ⟨‹_›, h.1⟩))
        · cases h
theorem toList_data (s : ByteArray) : s.toList = s.data.toList := ByteArray.toList_eq s
theorem printV_cut {v u : Val} {r t : Bs} (hv : v.right = true) (hu : u.right = true) (h : printV v ++ r = printV u ++ t) (hr : Stops r) (ht : Stops t) : (v.k = u.k ∧ v.n = u.n ∧ v.s.toList = u.s.toList) ∧ r = t := by
  unfold printV at h
  rcases right_shape hv with ⟨a1, a2, a3⟩ | ⟨a1, a2⟩ | ⟨a1, a2⟩ | ⟨a1, a2⟩
  all_goals rcases right_shape hu with ⟨b1, b2, b3⟩ | ⟨b1, b2⟩ | ⟨b1, b2⟩ | ⟨b1, b2⟩
  all_goals rw [a1, b1] at h
  all_goals simp at h
  · exact ⟨⟨by rw [a1, b1], by rw [a2, b2], by rw [a3, b3]⟩, h⟩
  · obtain ⟨e, e2⟩ := itoa_cut h hr ht
    exact ⟨⟨by rw [a1, b1], e, by rw [a2, b2]⟩, e2⟩
  · obtain ⟨e, e2⟩ := itoa_cut h hr ht
    exact ⟨⟨by rw [a1, b1], e, by rw [a2, b2]⟩, e2⟩
  · obtain ⟨e, e2⟩ := itoa_cut h (Stops.cons (by decide)) (Stops.cons (by decide))
    simp only [List.cons.injEq, true_and] at e2
    have hl : v.s.data.toList.length = u.s.data.toList.length := by simp only [Array.length_toList]; exact Int.ofNat.inj e
    obtain ⟨e3, e4⟩ := List.append_inj e2 hl
    exact ⟨⟨by rw [a1, b1], by rw [a2, b2], by rw [toList_data, toList_data, e3]⟩, e4⟩
theorem print_leaf1 {v : Val} {rel col n : Int} {s : ByteArray} {l : List Ex} : (Ex.mk 1 v rel col n s l).print = printV v := by rw [Ex.print, if_pos rfl]; rfl
theorem print_op {op : Int} {v : Val} {rel col n : Int} {s : ByteArray} {l : List Ex} (h : 4 ≤ op) : (Ex.mk op v rel col n s l).print = 40 :: itoa op ++ printL l ++ [41] := by rw [Ex.print, if_neg (by omega), if_neg (by omega), if_neg (by omega)]
theorem printV_first {v : Val} : ∃ b t, printV v = b :: t ∧ b ≠ 82 ∧ b ≠ 80 ∧ b ≠ 40 := by
  unfold printV
  split
  · exact ⟨78, [], rfl, by decide, by decide, by decide⟩
  · split
    · exact ⟨73, _, rfl, by decide, by decide, by decide⟩
    · split
      · exact ⟨66, _, rfl, by decide, by decide, by decide⟩
      · exact ⟨84, _, rfl, by decide, by decide, by decide⟩
theorem printL_first {l : List Ex} {r : Bs} (hl : l ≠ []) : ∃ t, printL l ++ r = 32 :: t := by
  cases l with
  | nil => exact absurd rfl hl
  | cons x l => exact ⟨x.print ++ (printL l ++ r), by rw [printL]; simp⟩
theorem stops_list {l : List Ex} {r : Bs} : Stops (printL l ++ 41 :: r) := by
  cases l with
  | nil => rw [printL]; exact Stops.cons (by decide)
  | cons x l =>
    obtain ⟨t, e⟩ := printL_first (l := x :: l) (r := 41 :: r) (by simp)
    rw [e]
    exact Stops.cons (by decide)
theorem stops_list' {l : List Ex} {r : Bs} (hr : Stops r) : Stops (printL l ++ r) := by
  cases l with
  | nil => rw [printL]; exact hr
  | cons x l =>
    obtain ⟨t, e⟩ := printL_first (l := x :: l) (r := r) (by simp)
    rw [e]
    exact Stops.cons (by decide)
mutual
theorem print_cut : ∀ (x y : Ex) (r t : Bs), x.okAll = true → y.okAll = true → x.print ++ r = y.print ++ t → Stops r → Stops t → sameE x y = true ∧ r = t
  | .mk op v rel col n s l, .mk op' v' rel' col' n' s' l', r, t, hx, hy, h, hr, ht => by
    rw [Ex.okAll, Bool.and_eq_true] at hx hy
    obtain ⟨hx, hxl⟩ := hx
    obtain ⟨hy, hyl⟩ := hy
    have sx := (head_shape hx).2
    have sy := (head_shape hy).2
    rcases sx with ⟨rfl, rfl, rfl, rfl, x4, x5⟩ | ⟨rfl, xv, rfl, x4⟩ | ⟨rfl, xv, rfl, rfl, x4⟩ | ⟨xa, xb, xv, rfl, rfl, rfl, x4⟩
    · rw [print_leaf1] at h
      rcases sy with ⟨rfl, rfl, rfl, rfl, y4, y5⟩ | ⟨rfl, yv, rfl, y4⟩ | ⟨rfl, yv, rfl, rfl, y4⟩ | ⟨ya, yb, yv, rfl, rfl, rfl, y4⟩
      · rw [print_leaf1] at h
        obtain ⟨⟨e1, e2, e3⟩, e4⟩ := printV_cut x5 y5 h hr ht
        rw [List.length_eq_zero_iff] at x4 y4
        subst x4 y4
        refine ⟨?_, e4⟩
        rw [sameE, sameL, e1, e2, e3]
        simp
      · obtain ⟨b, u, e, n1, n2, n3⟩ := printV_first (v := v)
        rw [e, Ex.print, if_neg (by decide), if_pos rfl] at h
        simp at h
        exact absurd h.1 n1
      · obtain ⟨b, u, e, n1, n2, n3⟩ := printV_first (v := v)
        rw [e, Ex.print, if_neg (by decide), if_neg (by decide), if_pos rfl] at h
        simp at h
        exact absurd h.1 n2
      · obtain ⟨b, u, e, n1, n2, n3⟩ := printV_first (v := v)
        rw [e, print_op ya] at h
        simp at h
        exact absurd h.1 n3
    · rw [Ex.print, if_neg (by decide), if_pos rfl] at h
      rcases sy with ⟨rfl, rfl, rfl, rfl, y4, y5⟩ | ⟨rfl, yv, rfl, y4⟩ | ⟨rfl, yv, rfl, rfl, y4⟩ | ⟨ya, yb, yv, rfl, rfl, rfl, y4⟩
      · obtain ⟨b, u, e, n1, n2, n3⟩ := printV_first (v := v')
        rw [print_leaf1, e] at h
        simp at h
        exact absurd h.1.symm n1
      · rw [Ex.print, if_neg (by decide), if_pos rfl] at h
        simp at h
        obtain ⟨e1, e2⟩ := itoa_cut h (Stops.cons (by decide)) (Stops.cons (by decide))
        simp only [List.cons.injEq, true_and] at e2
        obtain ⟨e3, e4⟩ := itoa_cut e2 hr ht
        rw [List.length_eq_zero_iff] at x4 y4
        subst x4 y4 e1 e3
        refine ⟨?_, e4⟩
        obtain ⟨z1, z2, z3⟩ := zero_shape xv
        obtain ⟨w1, w2, w3⟩ := zero_shape yv
        rw [sameE, sameL, z1, z2, z3, w1, w2, w3]
        simp
      · rw [Ex.print, if_neg (by decide), if_neg (by decide), if_pos rfl] at h
        simp at h
      · rw [print_op ya] at h
        simp at h
    · rw [Ex.print, if_neg (by decide), if_neg (by decide), if_pos rfl] at h
      rcases sy with ⟨rfl, rfl, rfl, rfl, y4, y5⟩ | ⟨rfl, yv, rfl, y4⟩ | ⟨rfl, yv, rfl, rfl, y4⟩ | ⟨ya, yb, yv, rfl, rfl, rfl, y4⟩
      · obtain ⟨b, u, e, n1, n2, n3⟩ := printV_first (v := v')
        rw [print_leaf1, e] at h
        simp at h
        exact absurd h.1.symm n2
      · rw [Ex.print, if_neg (by decide), if_pos rfl] at h
        simp at h
      · rw [Ex.print, if_neg (by decide), if_neg (by decide), if_pos rfl] at h
        simp at h
        obtain ⟨e3, e4⟩ := itoa_cut h hr ht
        rw [List.length_eq_zero_iff] at x4 y4
        subst x4 y4 e3
        refine ⟨?_, e4⟩
        obtain ⟨z1, z2, z3⟩ := zero_shape xv
        obtain ⟨w1, w2, w3⟩ := zero_shape yv
        rw [sameE, sameL, z1, z2, z3, w1, w2, w3]
        simp
      · rw [print_op ya] at h
        simp at h
    · rw [print_op xa] at h
      rcases sy with ⟨rfl, rfl, rfl, rfl, y4, y5⟩ | ⟨rfl, yv, rfl, y4⟩ | ⟨rfl, yv, rfl, rfl, y4⟩ | ⟨ya, yb, yv, rfl, rfl, rfl, y4⟩
      · obtain ⟨b, u, e, n1, n2, n3⟩ := printV_first (v := v')
        rw [print_leaf1, e] at h
        simp at h
        exact absurd h.1.symm n3
      · rw [Ex.print, if_neg (by decide), if_pos rfl] at h
        simp at h
      · rw [Ex.print, if_neg (by decide), if_neg (by decide), if_pos rfl] at h
        simp at h
      · rw [print_op ya] at h
        simp at h
        obtain ⟨e1, e2⟩ := itoa_cut h stops_list stops_list
        subst e1
        have hlen : l.length = l'.length := by omega
        obtain ⟨e3, e4⟩ := printL_cut l l' _ _ hxl hyl hlen e2 (Stops.cons (by decide)) (Stops.cons (by decide))
        simp only [List.cons.injEq, true_and] at e4
        refine ⟨?_, e4⟩
        obtain ⟨z1, z2, z3⟩ := zero_shape xv
        obtain ⟨w1, w2, w3⟩ := zero_shape yv
        rw [sameE, e3, z1, z2, z3, w1, w2, w3]
        simp
theorem printL_cut : ∀ (l m : List Ex) (r t : Bs), okL l = true → okL m = true → l.length = m.length → printL l ++ r = printL m ++ t → Stops r → Stops t → sameL l m = true ∧ r = t
  | [], [], r, t, _, _, _, h, _, _ => by rw [printL] at h; exact ⟨by rw [sameL], by simpa using h⟩
  | x :: l, y :: m, r, t, hx, hy, hl, h, hr, ht => by
    rw [okL, Bool.and_eq_true] at hx hy
    rw [printL, printL] at h
    simp only [List.cons_append, List.cons.injEq, true_and, List.append_assoc] at h
    obtain ⟨e1, e2⟩ := print_cut x y _ _ hx.1 hy.1 h (stops_list' hr) (stops_list' ht)
    obtain ⟨e3, e4⟩ := printL_cut l m r t hx.2 hy.2 (by simpa using hl) e2 hr ht
    exact ⟨by rw [sameL, e1, e3]; rfl, e4⟩
  | [], _ :: _, _, _, _, _, hl, _, _, _ => absurd hl (by simp)
  | _ :: _, [], _, _, _, _, hl, _, _, _ => absurd hl (by simp)
end
mutual
theorem print_same : ∀ (x y : Ex), sameE x y = true → x.print = y.print
  | .mk op v rel col n s l, .mk op' v' rel' col' n' s' l', h => by
    rw [sameE] at h
    simp only [Bool.and_eq_true, beq_iff_eq] at h
    obtain ⟨⟨⟨⟨⟨rfl, ⟨hk, hn⟩, hs⟩, rfl⟩, rfl⟩, rfl⟩, hl⟩ := h
    obtain ⟨k, n0, s0⟩ := v
    obtain ⟨k', n0', s0'⟩ := v'
    simp only at hk hn hs
    have hs' : s0 = s0' := ba_eq.2 hs
    subst hk hn hs'
    rw [Ex.print, Ex.print, printL_same l l' hl]
theorem printL_same : ∀ (l m : List Ex), sameL l m = true → printL l = printL m
  | [], [], _ => rfl
  | x :: l, y :: m, h => by
    rw [sameL, Bool.and_eq_true] at h
    rw [printL, printL, print_same x y h.1, printL_same l m h.2]
  | [], _ :: _, h => by simp [sameL] at h
  | _ :: _, [], h => by simp [sameL] at h
end
theorem print_iff {x y : Ex} (hx : x.okAll = true) (hy : y.okAll = true) : x.print = y.print ↔ sameE x y = true :=
  ⟨fun h => (print_cut x y [] [] hx hy (by rw [h]) Stops.nil Stops.nil).1, print_same x y⟩
open Go.RowKit
theorem bytesLess_self : ∀ a : List UInt8, Op.bytesLess a a = false
  | [] => rfl
  | a :: x => by
    rw [Op.bytesLess, bytesLess_self x, Bool.and_false, Bool.or_false]
    simp
open Go.RowKit
theorem bl_trans : ∀ a b c : List UInt8, Op.bytesLess a b = true → Op.bytesLess b c = true → Op.bytesLess a c = true
  | _, [], _, h, _ => by simp [Op.bytesLess] at h
  | _, _ :: _, [], _, h => by simp [Op.bytesLess] at h
  | [], _ :: _, _ :: _, _, _ => rfl
  | a :: x, b :: y, c :: z, h, h' => by
    simp only [Op.bytesLess, Bool.or_eq_true, decide_eq_true_eq, Bool.and_eq_true, beq_iff_eq] at h h' ⊢
    rcases h with h | ⟨rfl, h⟩
    · rcases h' with h' | ⟨rfl, _⟩
      · exact .inl (UInt8.lt_trans h h')
      · exact .inl h
    · rcases h' with h' | ⟨rfl, h'⟩
      · exact .inl h'
      · exact .inr ⟨rfl, bl_trans x y z h h'⟩
theorem bl_total : ∀ a b : List UInt8, a ≠ b → Op.bytesLess a b = false → Op.bytesLess b a = true
  | [], [], h, _ => absurd rfl h
  | [], _ :: _, _, h => by simp [Op.bytesLess] at h
  | _ :: _, [], _, _ => rfl
  | a :: x, b :: y, h, h' => by
    simp only [Op.bytesLess, Bool.or_eq_false_iff, decide_eq_false_iff_not, Bool.and_eq_false_iff, beq_eq_false_iff_ne] at h'
    simp only [Op.bytesLess, Bool.or_eq_true, decide_eq_true_eq, Bool.and_eq_true, beq_iff_eq]
    by_cases e : a = b
    · subst e
      refine .inr ⟨rfl, bl_total x y (fun e' => h (by rw [e'])) ?_⟩
      rcases h'.2 with h2 | h2
      · exact absurd rfl h2
      · exact h2
    · left
      have h1 := h'.1
      rw [UInt8.lt_iff_toNat_lt] at h1 ⊢
      have : a.toNat ≠ b.toNat := fun e' => e (UInt8.toNat_inj.1 e')
      omega
theorem bl_anti (a b : List UInt8) (h : Op.bytesLess a b = true) : Op.bytesLess b a = false := by
  cases h' : Op.bytesLess b a
  · rfl
  · have := bl_trans a b a h h'
    rw [bytesLess_self] at this
    cases this
end Go.Proofs.YtklgoajgchfmeaaDoor
