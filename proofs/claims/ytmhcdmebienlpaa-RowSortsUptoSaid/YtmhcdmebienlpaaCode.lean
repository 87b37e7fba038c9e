/- What is written is read, and what is read is written: of bytes alone; no program is walked here. -/
import Derived.Test.YtmhcdmebienlpaaEncode
import Derived.Test.YtmhcdmebienlpaaDecode
import Derived.Laws.BitsAllLaws
namespace Go.Proofs.Ytmhcdmebienlpaa
open Go.RowKit

theorem dec8_step (s : ByteArray) (k : Nat) (h0 : 0 ≤ dec8 s k) (h1 : dec8 s k < 72057594037927936) : dec8 s (k + 1) = dec8 s k * 256 + at_ s (1 + k) := by
  have l := at_lt s (1 + k)
  rw [dec8]
  have hw : IntKind.u64.wrap (dec8 s k * 256) = dec8 s k * 256 := by
    simp only [IntKind.wrap, IntKind.bits, IntKind.signed]
    simp
    omega
  rw [hw, u64_or _ _ (by omega) (by omega) (by omega) (by omega)]
  obtain ⟨d, hd⟩ : ∃ d : Nat, dec8 s k = d := ⟨(dec8 s k).toNat, by omega⟩
  obtain ⟨a, ha⟩ : ∃ a : Nat, at_ s (1 + k) = a := ⟨(at_ s (1 + k)).toNat, by omega⟩
  rw [hd, ha]
  have e1 : ((d : Int) * 256).toNat = 2 ^ 8 * d := by omega
  rw [e1, Int.toNat_natCast, ← Nat.two_pow_add_eq_or_of_lt (by omega : a < 2 ^ 8)]
  omega

theorem dec8_all (s : ByteArray) : dec8 s 8 = at_ s 1 * 72057594037927936 + at_ s 2 * 281474976710656 + at_ s 3 * 1099511627776 + at_ s 4 * 4294967296 + at_ s 5 * 16777216 + at_ s 6 * 65536 + at_ s 7 * 256 + at_ s 8 := by
  have a1 := at_lt s 1
  have a2 := at_lt s 2
  have a3 := at_lt s 3
  have a4 := at_lt s 4
  have a5 := at_lt s 5
  have a6 := at_lt s 6
  have a7 := at_lt s 7
  have a8 := at_lt s 8
  have h0 : dec8 s 0 = 0 := rfl
  have h1 : dec8 s 1 = dec8 s 0 * 256 + at_ s 1 := dec8_step s 0 (by omega) (by omega)
  have h2 : dec8 s 2 = dec8 s 1 * 256 + at_ s 2 := dec8_step s 1 (by omega) (by omega)
  have h3 : dec8 s 3 = dec8 s 2 * 256 + at_ s 3 := dec8_step s 2 (by omega) (by omega)
  have h4 : dec8 s 4 = dec8 s 3 * 256 + at_ s 4 := dec8_step s 3 (by omega) (by omega)
  have h5 : dec8 s 5 = dec8 s 4 * 256 + at_ s 5 := dec8_step s 4 (by omega) (by omega)
  have h6 : dec8 s 6 = dec8 s 5 * 256 + at_ s 6 := dec8_step s 5 (by omega) (by omega)
  have h7 : dec8 s 7 = dec8 s 6 * 256 + at_ s 7 := dec8_step s 6 (by omega) (by omega)
  have h8 : dec8 s 8 = dec8 s 7 * 256 + at_ s 8 := dec8_step s 7 (by omega) (by omega)
  omega

theorem wrap_u64_64 (n : Int) (h : 0 ≤ n) (h2 : n < 18446744073709551616) : IntKind.u64.wrap (wrap64 n) = n := by
  simp only [IntKind.wrap, IntKind.bits, IntKind.signed]
  unfold wrap64
  simp
  omega

/-- The bytes of the number that eight bytes tell are those bytes. -/
theorem be8_dec8 (s : ByteArray) (j : Nat) (hj : j < 8) : be8 (wrap64 (dec8 s 8)) j = at_ s (1 + j) := by
  have a1 := at_lt s 1
  have a2 := at_lt s 2
  have a3 := at_lt s 3
  have a4 := at_lt s 4
  have a5 := at_lt s 5
  have a6 := at_lt s 6
  have a7 := at_lt s 7
  have a8 := at_lt s 8
  have hd := dec8_all s
  unfold be8
  rw [wrap_u64_64 _ (by omega) (by omega), hd]
  clear hd
  match j, hj with
  | 0, _ => simp; omega
  | 1, _ => simp; omega
  | 2, _ => simp; omega
  | 3, _ => simp; omega
  | 4, _ => simp; omega
  | 5, _ => simp; omega
  | 6, _ => simp; omega
  | 7, _ => simp; omega

theorem sum8 (U : Int) (h : 0 ≤ U ∧ U < 18446744073709551616) : U / 72057594037927936 % 256 * 72057594037927936 + U / 281474976710656 % 256 * 281474976710656 + U / 1099511627776 % 256 * 1099511627776 + U / 4294967296 % 256 * 4294967296 + U / 16777216 % 256 * 16777216 + U / 65536 % 256 * 65536 + U / 256 % 256 * 256 + U % 256 = U := by
  have e0 : U = (U / 256) * 256 + U % 256 := by omega
  have e1 : U / 256 = (U / 65536) * 256 + U / 256 % 256 := by omega
  have e2 : U / 65536 = (U / 16777216) * 256 + U / 65536 % 256 := by omega
  have e3 : U / 16777216 = (U / 4294967296) * 256 + U / 16777216 % 256 := by omega
  have e4 : U / 4294967296 = (U / 1099511627776) * 256 + U / 4294967296 % 256 := by omega
  have e5 : U / 1099511627776 = (U / 281474976710656) * 256 + U / 1099511627776 % 256 := by omega
  have e6 : U / 281474976710656 = (U / 72057594037927936) * 256 + U / 281474976710656 % 256 := by omega
  have e7 : U / 72057594037927936 % 256 = U / 72057594037927936 := by omega
  generalize U / 256 = c1 at *
  generalize U / 65536 = c2 at *
  generalize U / 16777216 = c3 at *
  generalize U / 4294967296 = c4 at *
  generalize U / 1099511627776 = c5 at *
  generalize U / 281474976710656 = c6 at *
  generalize U / 72057594037927936 = c7 at *
  generalize U % 256 = m0 at *
  generalize c1 % 256 = m1 at *
  generalize c2 % 256 = m2 at *
  generalize c3 % 256 = m3 at *
  generalize c4 % 256 = m4 at *
  generalize c5 % 256 = m5 at *
  generalize c6 % 256 = m6 at *
  generalize c7 % 256 = m7 at *
  omega

/-- The number that the eight bytes of a number tell is that number. -/
theorem dec8_be8 (s : ByteArray) (n : Int) (hn : inR n = true) (h : ∀ j, j < 8 → at_ s (1 + j) = be8 n j) : wrap64 (dec8 s 8) = n := by
  have b0 := h 0 (by omega)
  have b1 := h 1 (by omega)
  have b2 := h 2 (by omega)
  have b3 := h 3 (by omega)
  have b4 := h 4 (by omega)
  have b5 := h 5 (by omega)
  have b6 := h 6 (by omega)
  have b7 := h 7 (by omega)
  have hd := dec8_all s
  simp only [Nat.reduceAdd] at b0 b1 b2 b3 b4 b5 b6 b7
  rw [b0, b1, b2, b3, b4, b5, b6, b7] at hd
  have hu : IntKind.u64.wrap n = n % 18446744073709551616 := by simp [IntKind.wrap, IntKind.bits, IntKind.signed]
  unfold be8 at hd
  rw [hu] at hd
  unfold inR at hn
  simp only [decide_eq_true_eq] at hn
  simp at hd
  generalize hU : n % 18446744073709551616 = U at hd
  have hU0 : 0 ≤ U ∧ U < 18446744073709551616 := by omega
  have hdU : dec8 s 8 = U := by
    have e : n % 256 = U % 256 := by omega
    rw [hd, e]
    exact sum8 U hU0
  rw [hdU]
  unfold wrap64
  omega

/-- Bytes are told by what stands at each place. -/
theorem toI_ext (c : ByteArray) (L : List Int) (h : c.size = L.length) (hj : ∀ j, j < c.size → L[j]? = some (at_ c j)) : toI c.data.toList = L := by
  have hs : c.data.toList.length = c.size := by rw [Array.length_toList]; rfl
  apply List.ext_getElem?
  intro j
  by_cases h' : j < c.size
  · rw [hj j h']
    unfold toI at_
    rw [List.getElem?_map, Array.getElem?_toList]
    have h2 : j < c.data.size := h'
    rw [Array.getElem?_eq_getElem h2]
    rfl
  · rw [List.getElem?_eq_none (by rw [toI_length, hs]; omega), List.getElem?_eq_none (by omega)]
theorem toI_inj {l m : List UInt8} (h : toI l = toI m) : l = m := by
  unfold toI at h
  exact (List.map_inj_right (fun a b (e : ((a.toNat : Nat) : Int) = ((b.toNat : Nat) : Int)) => UInt8.toNat_inj.1 (by omega))).1 h
theorem at_toI (c : ByteArray) (j : Nat) (h : j < c.size) : (toI c.data.toList)[j]? = some (at_ c j) := by
  unfold toI at_
  have h2 : j < c.data.size := h
  rw [List.getElem?_map, Array.getElem?_toList, Array.getElem?_eq_getElem h2]
  rfl

/-- Bytes that tell a right value are that value's bytes. -/
theorem enc_dec (c : ByteArray) (h0 : 0 < c.size) (hn : firstN c = c.size) (hr : (decVal c).right = true) : encB (decVal c) = c.data.toList := by
  apply toI_inj
  rw [toI_encB _ hr]
  symm
  have a0 := at_lt c 0
  unfold firstN at hn
  unfold decVal at hr ⊢
  by_cases h1 : at_ c 0 = 1
  · simp [h1] at hn
    simp only [h1, ↓reduceIte]
    refine toI_ext c _ (by simp [encI]; omega) ?_
    intro j hj
    unfold encI
    simp only [↓reduceIte]
    cases j with
    | zero => simp [h1]
    | succ j =>
      have hj8 : j < 8 := by omega
      simp [hj8]
      rw [be8_dec8 c j hj8, Nat.add_comm]
  by_cases h2 : at_ c 0 = 2
  · simp [h2] at hn
    simp only [h2, ↓reduceIte]
    refine toI_ext c _ (by simp [encI]; omega) ?_
    intro j hj
    unfold encI
    match j, hj with
    | 0, _ => simp [h2]
    | 1, _ => simp
    | j + 2, hj => omega
  by_cases h3 : at_ c 0 = 3
  · have hs1 : 1 < c.size := by
      rcases Nat.lt_or_ge 1 c.size with h | h
      · exact h
      · simp [h3] at hn
        rw [if_neg (by omega)] at hn
        omega
    simp [h3, hs1] at hn
    have hx : (c.extract 2 c.size).size = c.size - 2 := size_rest c 2
    simp only [h3, Int.reduceEq, ↓reduceIte]
    have hd : (c.extract 2 c.size).data.toList.length = c.size - 2 := by rw [Array.length_toList]; exact hx
    refine toI_ext c _ ?_ ?_
    · have hl : (toI (c.extract 2 c.size).data.toList).length = c.size - 2 := by rw [toI_length, hd]
      rw [show encI ⟨3, 0, c.extract 2 c.size⟩ = (3 : Int) :: ((c.extract 2 c.size).size : Int) :: toI (c.extract 2 c.size).data.toList from rfl, List.length_cons, List.length_cons, hl]
      omega
    · intro j hj
      unfold encI
      match j, hj with
      | 0, _ => simp [h3]
      | 1, _ => simp [hx]; omega
      | j + 2, hj =>
        simp only [Int.reduceEq, ↓reduceIte, List.getElem?_cons_succ]
        rw [at_toI _ j (by rw [hx]; omega)]
        unfold at_
        have e : (c.extract 2 c.size).data = c.data.extract 2 c.size := by simp [ByteArray.data_extract]
        have hm : min c.size c.data.size = c.size := Nat.min_self _
        rw [e, Array.getElem?_extract, hm, if_pos (by omega), Nat.add_comm]
  · simp only [h1, h2, h3, ↓reduceIte] at hr ⊢
    by_cases h00 : at_ c 0 = 0
    · simp [h00] at hn
      refine toI_ext c _ (by simp [encI, h00]; omega) ?_
      intro j hj
      have : j = 0 := by omega
      subst this
      simp [encI, h00]
    · simp [Val.right, h00, h1, h2, h3] at hr

/-- The bytes of values, one behind the other. -/
def encL : List Val → List UInt8
  | [] => []
  | x :: l => encB x ++ encL l
theorem encL_append (l m : List Val) : encL (l ++ m) = encL l ++ encL m := by
  induction l with
  | nil => rfl
  | cons x l ih => simp [encL, ih]
theorem encL_range (x : Nat → Val) (n : Nat) : encL ((List.range n).map x) = encRow x n := by
  induction n with
  | zero => rfl
  | succ n ih => rw [List.range_succ, List.map_append, encL_append, ih]; simp [encL, encRow]

theorem data_take (s : ByteArray) (n : Nat) : (s.extract 0 n).data.toList = s.data.toList.take n := by simp [ByteArray.data_extract]
theorem data_drop (s : ByteArray) (n : Nat) : (s.extract n s.size).data.toList = s.data.toList.drop n := by
  have hsz : s.data.toList.length = s.size := by rw [Array.length_toList]; rfl
  rw [ByteArray.data_extract, Array.toList_extract, List.extract_eq_take_drop]
  exact List.take_of_length_le (by rw [List.length_drop]; omega)
theorem data_split (s : ByteArray) (n : Nat) (h : n ≤ s.size) : s.data.toList = (s.extract 0 n).data.toList ++ (s.extract n s.size).data.toList := by
  have h2 : n ≤ s.data.toList.length := by rw [Array.length_toList]; exact h
  have e1 : (s.extract 0 n).data.toList = s.data.toList.take n := by simp [ByteArray.data_extract]
  have hsz : s.data.toList.length = s.size := by rw [Array.length_toList]; rfl
  have e2 : (s.extract n s.size).data.toList = s.data.toList.drop n := by
    rw [ByteArray.data_extract, Array.toList_extract, List.extract_eq_take_drop]
    exact List.take_of_length_le (by rw [List.length_drop]; omega)
  rw [e1, e2, List.take_append_drop]

/-- What was read is written as it stood. -/
theorem dec_enc : ∀ (f : Nat) (u : ByteArray) (acc l : List Val), u.size ≤ f → acc.length ≤ 100 → decRun f u acc = some l → ∃ m, l = acc ++ m ∧ u.data.toList = encL m ∧ (∀ v ∈ m, v.right = true) ∧ l.length ≤ 100 := by
  intro f
  induction f with
  | zero =>
    intro u acc l hf ha h
    rw [decRun] at h
    have hu : u.data.toList = [] := by
      apply List.eq_nil_of_length_eq_zero
      rw [Array.length_toList]
      have : u.data.size = u.size := rfl
      omega
    exact ⟨[], by simp at h; simp [h], hu, by simp, by simp at h; rw [← h]; exact ha⟩
  | succ f ih =>
    intro u acc l hf ha h
    rw [decRun] at h
    by_cases h0 : u.size = 0
    · rw [if_pos h0] at h
      have hu : u.data.toList = [] := by
        apply List.eq_nil_of_length_eq_zero
        rw [Array.length_toList]
        exact h0
      exact ⟨[], by simp at h; simp [h], hu, by simp, by simp at h; rw [← h]; exact ha⟩
    rw [if_neg h0] at h
    by_cases hb : firstN u = 0 ∨ (u.size : Int) < firstN u ∨ acc.length = 100
    · rw [if_pos hb] at h; cases h
    rw [if_neg hb] at h
    obtain ⟨x1, x2, x3⟩ := firstN_extract u (fun h => hb (.inl h)) (Int.not_lt.1 fun h => hb (.inr (.inl h)))
    have hlu : firstN u ≤ u.size := Int.not_lt.1 fun h => hb (.inr (.inl h))
    have ha2 : acc.length ≠ 100 := fun h => hb (.inr (.inr h))
    generalize hn : (firstN u).toNat = n at *
    have hn' : firstN u = n := by omega
    cases hr : (decVal (u.extract 0 n)).right
    · rw [hr] at h; cases h
    rw [hr, if_pos rfl] at h
    have hrest := size_rest u n
    obtain ⟨m, h1, h2, h3, h4⟩ := ih _ _ _ (by omega) (by simp; omega) h
    refine ⟨decVal (u.extract 0 n) :: m, by rw [h1]; simp, ?_, ?_, h4⟩
    · rw [data_split u n (by omega), h2, encL, enc_dec (u.extract 0 n) (by omega) (by rw [x2, x3, hn']) hr]
    · intro v hv
      rcases List.mem_cons.1 hv with rfl | hv
      · exact hr
      · exact h3 v hv

theorem toI_mapB (l : List UInt8) : (toI l).map (fun i => i.toNat.toUInt8) = l := by
  unfold toI
  rw [List.map_map]
  conv => rhs; rw [← List.map_id l]
  apply List.map_congr_left
  intro b _
  simp

theorem at_of (s : ByteArray) (L : List Int) (h : toI s.data.toList = L) (j : Nat) (hj : j < s.size) : L[j]? = some (at_ s j) := by
  rw [← h]
  exact at_toI s j hj
theorem size_of (s : ByteArray) (L : List Int) (h : toI s.data.toList = L) : s.size = L.length := by
  rw [← h, toI_length, Array.length_toList]
  rfl

/-- By the first bytes of a value it is told how many there are. -/
theorem enc_first (s : ByteArray) (v : Val) (t : List UInt8) (hr : v.right = true) (h : s.data.toList = encB v ++ t) : firstN s = (encB v).length := by
  have hI : toI s.data.toList = encI v ++ toI t := by rw [h, toI_append, toI_encB v hr]
  have hs := size_of s _ hI
  have hl : (encB v).length = (encI v).length := by unfold encB; rw [List.length_map]
  rw [hl]
  rw [List.length_append] at hs
  have h1 := (encI_length v hr).1
  have e0 := at_of s _ hI 0 (by omega)
  rw [List.getElem?_append_left (by omega)] at e0
  obtain ⟨k, n, b⟩ := v
  unfold Val.right at hr
  dsimp only at hr
  unfold firstN
  by_cases k1 : k = 1
  · subst k1
    simp [encI] at e0 ⊢
    rw [← e0]
    simp
  by_cases k2 : k = 2
  · subst k2
    simp [encI] at e0 ⊢
    rw [← e0]
    simp
  by_cases k3 : k = 3
  · subst k3
    simp at hr
    have hL : encI ⟨3, n, b⟩ = 3 :: (b.size : Int) :: toI b.data.toList := rfl
    have e1 := at_of s _ hI 1 (by rw [hL] at hs; simp at hs; omega)
    rw [hL] at e0 e1 hs ⊢
    simp [toI_length] at e0 e1 hs ⊢
    rw [← e0, ← e1]
    have hbs : b.data.size = b.size := rfl
    simp
    omega
  · by_cases k0 : k = 0
    · subst k0
      simp [encI] at e0 ⊢
      rw [← e0]
      simp
    · simp [k0, k1, k2, k3] at hr

/-- A value's bytes are read as that value. -/
theorem dec_first (c : ByteArray) (v : Val) (hr : v.right = true) (hv : inR v.n = true) (h : c.data.toList = encB v) : decVal c = v := by
  have hI : toI c.data.toList = encI v := by rw [h, toI_encB v hr]
  have hs := size_of c _ hI
  have h1 := (encI_length v hr).1
  have e0 := at_of c _ hI 0 (by omega)
  obtain ⟨k, n, b⟩ := v
  unfold Val.right at hr
  dsimp only at hr hv
  unfold decVal
  by_cases k1 : k = 1
  · subst k1
    have hb : b = ⟨#[]⟩ := by
      simp at hr
      apply ByteArray.ext
      rw [ByteArray.toList_eq] at hr
      simpa using hr
    subst hb
    have hj : ∀ j, j < 8 → at_ c (1 + j) = be8 n j := by
      intro j hj
      have e := at_of c _ hI (1 + j) (by simp [encI] at hs; omega)
      rw [Nat.add_comm] at e
      simp [encI, hj] at e
      rw [Nat.add_comm]
      exact e.symm
    simp [encI] at e0
    rw [← e0, dec8_be8 c n hv hj]
    simp
  by_cases k2 : k = 2
  · subst k2
    simp at hr
    have hb : b = ⟨#[]⟩ := by
      apply ByteArray.ext
      rw [ByteArray.toList_eq] at hr
      simpa using hr.2
    subst hb
    have e1 := at_of c _ hI 1 (by simp [encI] at hs; omega)
    simp [encI] at e0 e1
    rw [← e0, ← e1]
    simp
  by_cases k3 : k = 3
  · subst k3
    simp at hr
    have hL : encI ⟨3, n, b⟩ = 3 :: (b.size : Int) :: toI b.data.toList := rfl
    have hb : c.extract 2 c.size = b := by
      apply ByteArray.ext
      apply Array.ext'
      rw [data_drop, h]
      unfold encB
      rw [hL]
      simp [toI_mapB]
    rw [hL] at e0
    simp at e0
    rw [← e0, hb, hr.1]
    simp
  · by_cases k0 : k = 0
    · subst k0
      simp at hr
      have hb : b = ⟨#[]⟩ := by
        apply ByteArray.ext
        rw [ByteArray.toList_eq] at hr
        simpa using hr.2
      subst hb
      simp [encI] at e0
      rw [← e0, hr.1]
      simp
    · simp [k0, k1, k2, k3] at hr

/-- What was written is read as it was. -/
theorem enc_dec_all : ∀ (l : List Val) (f : Nat) (s : ByteArray) (acc : List Val), s.data.toList = encL l → (∀ v ∈ l, v.right = true ∧ inR v.n = true) → s.size ≤ f → acc.length + l.length ≤ 100 → decRun f s acc = some (acc ++ l) := by
  intro l
  induction l with
  | nil =>
    intro f s acc h _ hf _
    have hs : s.size = 0 := by
      have : s.data.toList.length = s.size := by rw [Array.length_toList]; rfl
      rw [h] at this
      simpa [encL] using this.symm
    cases f with
    | zero => simp [decRun]
    | succ f => simp [decRun, hs]
  | cons v l ih =>
    intro f s acc h hr hf ha
    have hv := hr v List.mem_cons_self
    rw [encL] at h
    have hn := enc_first s v _ hv.1 h
    have hb := encB_length v hv.1
    have hsz : s.data.toList.length = s.size := by rw [Array.length_toList]; rfl
    rw [h, List.length_append] at hsz
    cases f with
    | zero => omega
    | succ f =>
      have d1 : (s.extract 0 (encB v).length).data.toList = encB v := by rw [data_take, h, List.take_left]
      have d2 : (s.extract (encB v).length s.size).data.toList = encL l := by rw [data_drop, h, List.drop_left]
      have e := dec_first _ v hv.1 hv.2 d1
      rw [decRun, if_neg (by omega), hn, if_neg (by simp at ha; omega), Int.toNat_natCast, e, hv.1, if_pos rfl]
      rw [ih f _ (acc ++ [v]) d2 (fun w hw => hr w (List.mem_cons_of_mem _ hw)) (by rw [size_rest]; omega) (by simp at ha ⊢; omega)]
      simp

end Go.Proofs.Ytmhcdmebienlpaa
