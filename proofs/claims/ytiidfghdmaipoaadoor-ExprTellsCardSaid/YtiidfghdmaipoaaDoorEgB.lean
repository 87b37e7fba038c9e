/- A region that draws its order, walked by an invariant: whatever operation comes up next keeps it. It serves where answers hang on the world (new blocks), so that no one walk in the text's order serves all. What the laws of layer 8 make: a column, a number, an operation with two operands. The chapter's examples hold: what each law asks first. ExprBuilt: the walk. -/
import Derived.Test.YtiidfghdmaipoaaDoorVal
import Derived.Test.YtiidfghdmaipoaaDoorDvM
import Derived.Test.YtiidfghdmaipoaaDoorTxE
import Derived.Test.YtiidfghdmaipoaaDoorDvS
namespace Go.Proofs.YtiidfghdmaipoaaDoor
open Go.RowKit

section
variable {P : Program} {ops : Array Oper} {Q : Exit → Act → World → Prop} {md : Region.Mode}

/-- It ends normally, and so. -/
def OnlyN (K : Act → World → Prop) : Exit → Act → World → Prop
  | .normal, a, w => K a w
  | _, _, _ => False

theorem no_out (K : Act → World → Prop) : ¬ LetsOut (OnlyN K) := fun ⟨_, _, h⟩ => h

theorem wp_only {o : Oper} {K K' : Act → World → Prop} {a : Act} {w : World} (hh : o.wp P a w K (OnlyN K')) : o.wp P a w K Q := by
  unfold Oper.wp at *
  generalize (execOp a.eval o).run P w = r at *
  cases r with
  | ok n w' =>
    cases n <;> simp only [Oper.upon] at hh ⊢ <;>
      first
        | exact hh
        | exact Calls.mono hh (fun e w'' he => by cases e <;> first | exact he | exact absurd he (no_out _) | exact he.elim)
  | halt x w' => cases x <;> simp only [Oper.upon] at hh ⊢ <;> first | exact hh.elim | exact hh

theorem wpOp_of_list {i : Nat} {o : Oper} {K : Act → World → Prop} {a : Act} {w : World} (ho : ops[i]? = some o) (h : wpList P ops (OnlyN K) [o] a w) : wpOp P ops Q i K a w := by
  unfold wpOp
  rw [ho]
  simp only
  unfold wpList at h
  split
  · rename_i hw
    rw [if_pos hw] at h
    rcases h with h | h
    · exact .inl (wp_only h)
    · exact absurd h.2 (no_out _)
  · rename_i hw
    rw [if_neg hw] at h
    exact h

/-- One operation that bears no guard, by the walk's own words; nothing else of the region is in sight. -/
theorem wpOp_alone {i : Nat} {o : Oper} {K : Act → World → Prop} {a : Act} {w : World} (ho : ops[i]? = some o) (hg : o.guard = none) (h : ∀ K' : Act → World → Prop, (∀ a w, K a w → K' a w) → wpList P #[] (OnlyN K') [o] a w) : wpOp P ops Q i K a w := by
  refine wpOp_of_list ho ?_
  have h1 := h K fun _ _ h => h
  unfold wpList at h1 ⊢
  simp only [Region.wanted, hg, if_true] at h1 ⊢
  exact h1

theorem unlisted_ready {listed : Array Bool} {i : Nat} (h : i ∈ Region.ready md ops listed) : ∃ hi : i < listed.size, listed[i] = false ∧ listed.toList.count false = (listed.setIfInBounds i true).toList.count false + 1 := by
  have h1 := (mem_ready.1 h).1
  have hi : i < listed.size := by
    rcases Nat.lt_or_ge i listed.size with h | h
    · exact h
    · simp [Array.getElem?_eq_none h] at h1
  have h2 : listed[i] = false := by simpa [hi] using h1
  refine ⟨hi, h2, ?_⟩
  rw [Array.toList_setIfInBounds, List.count_set (by simpa using hi)]
  have h3 : (listed.toList)[i]'(by simpa using hi) = false := by simpa using h2
  have hpos : 0 < listed.toList.count false := List.count_pos_iff.2 (by rw [← h3]; exact List.getElem_mem _)
  rw [h3, if_pos (by rfl), if_neg (by decide)]
  omega

theorem ready_pred {listed : Array Bool} {i : Nat} {o : Oper} (h : i ∈ Region.ready md ops listed) (ho : ops[i]? = some o) (e : Edge) (he : e ∈ o.after) (hb : Region.binds md e = true) : listed.getD e.on false = true := by
  obtain ⟨_, o', ho', hp⟩ := mem_ready.1 h
  rw [ho] at ho'
  cases ho'
  exact hp e he hb
/-- Each waits only for what stands ahead of it. -/
def forwardB (md : Region.Mode) (ops : Array Oper) : Bool := (List.range ops.size).all fun i => ((ops[i]?).map fun o => o.after.all fun e => !Region.binds md e || decide (e.on < i)).getD true
theorem ready_nil_all {listed : Array Bool} (hB : forwardB md ops = true) (hs : listed.size = ops.size) (h : Region.ready md ops listed = []) : ∀ i, i < ops.size → listed.getD i false = true := by
  intro i
  induction i using Nat.strongRecOn with
  | _ i ih =>
    intro hi
    have hl : i < listed.size := by omega
    cases hv : listed[i] with
    | true => simp [hl, hv]
    | false =>
      have hr : i ∈ Region.ready md ops listed := by
        refine mem_ready.2 ⟨by simp [hl, hv], ops[i], Array.getElem?_eq_getElem hi, fun e he hb => ?_⟩
        have h1 := (List.all_eq_true.1 hB) i (List.mem_range.2 hi)
        rw [Array.getElem?_eq_getElem hi] at h1
        simp only [Option.map_some, Option.getD_some] at h1
        have h2 := Array.all_eq_true_iff_forall_mem.1 h1 e he
        rw [hb] at h2
        have h3 : e.on < i := by simpa using h2
        exact ih e.on h3 (by omega)
      rw [h] at hr
      cases hr

theorem wpAny_inv (J : Array Bool → Act → World → Prop) (hstep : ∀ listed a w i, listed.size = ops.size → J listed a w → i ∈ Region.ready md ops listed → wpOp P ops Q i (J (listed.setIfInBounds i true)) a w)
    (hend : ∀ listed a w, listed.size = ops.size → J listed a w → Region.ready md ops listed = [] → Q .normal a w) :
    ∀ (fuel : Nat) (listed : Array Bool) (a : Act) (w : World), listed.size = ops.size → listed.toList.count false ≤ fuel → J listed a w → wpAny P md ops Q fuel listed a w
  | 0, listed, a, w, hs, hf, hJ => by
    have hr : Region.ready md ops listed = [] := by
      rw [List.eq_nil_iff_forall_not_mem]
      intro i hi
      obtain ⟨_, _, h⟩ := unlisted_ready hi
      omega
    exact ⟨hr, hend listed a w hs hJ hr⟩
  | fuel + 1, listed, a, w, hs, hf, hJ => by
    refine ⟨fun hr => hend listed a w hs hJ hr, fun i hi => wpOp_mono (fun a' w' h' => wpAny_inv J hstep hend fuel _ a' w' ?_ ?_ h') (hstep listed a w i hs hJ hi)⟩
    · simpa using hs
    · obtain ⟨_, _, h⟩ := unlisted_ready hi
      omega
end

theorem wp_region_inv {P : Program} {id : Nat} {Q : Exit → Act → World → Prop} {a : Act} {w : World} {ops : Array Oper} (hm : P.follows .mixedOrders = true) (J : Array Bool → Act → World → Prop)
    (h0 : J (Array.replicate ops.size false) a { w with drawn := w.drawn + 1 })
    (hstep : ∀ listed a w i, listed.size = ops.size → J listed a w → i ∈ Region.ready .any ops listed → wpOp P ops Q i (J (listed.setIfInBounds i true)) a w)
    (hend : ∀ listed a w, listed.size = ops.size → J listed a w → Region.ready .any ops listed = [] → Q .normal a w) : (Code.region id ops true).wp P Q a w :=
  wp_region_any hm (wpAny_inv J hstep hend ops.size _ a _ (by simp) (by
    simp) h0)

/-- .. where the state is told by what the slots hold. -/
theorem wp_region_inv' {P : Program} {id : Nat} {Q : Exit → Act → World → Prop} {A : Array Value} {d : List Deferred} {w : World} {ops : Array Oper} (hm : P.follows .mixedOrders = true) (J : Array Value → Array Bool → Act → World → Prop)
    (h0 : J A (Array.replicate ops.size false) ⟨A, d⟩ { w with drawn := w.drawn + 1 })
    (hstep : ∀ listed a w i, listed.size = ops.size → J A listed a w → i ∈ Region.ready .any ops listed → wpOp P ops Q i (J A (listed.setIfInBounds i true)) a w)
    (hend : ∀ listed a w, listed.size = ops.size → J A listed a w → Region.ready .any ops listed = [] → Q .normal a w) : (Code.region id ops true).wp P Q ⟨A, d⟩ w :=
  wp_region_inv hm (J A) h0 hstep hend

end Go.Proofs.YtiidfghdmaipoaaDoor

namespace Go.Proofs.YtiidfghdmaipoaaDoor
open Go.RowKit
set_option maxRecDepth 100000

def refX (rel col : Int) : Ex := .mk 2 zeroVal rel col 0 ⟨#[]⟩ []
def numX (n : Int) : Ex := .mk 1 (num n) 0 0 0 ⟨#[]⟩ []
def twoX (op : Int) (x y : Ex) : Ex := .mk op zeroVal 0 0 0 ⟨#[]⟩ [x, y]
def oneX (op : Int) (x : Ex) : Ex := .mk op zeroVal 0 0 0 ⟨#[]⟩ [x]
def nulX : Ex := .mk 1 zeroVal 0 0 0 ⟨#[]⟩ []
theorem okVal_num {n : Int} (h : inR n = true) : okVal (num n) := ⟨rfl, h, Nat.zero_le _⟩
theorem okVal_zero : okVal zeroVal := ⟨rfl, rfl, Nat.zero_le _⟩
theorem refX_mem (w : World) (rel col : Int) : ExM w (refX rel col) (exCells 2 zeroVal rel col 0 ⟨#[]⟩ none 0 0) := ExM.iff.2 ⟨okVal_zero, none, 0, rfl, Nat.le_refl _, by rw [ExL]; trivial⟩
theorem numX_mem (w : World) {n : Int} (h : inR n = true) : ExM w (numX n) (exCells 1 (num n) 0 0 0 ⟨#[]⟩ none 0 0) := ExM.iff.2 ⟨okVal_num h, none, 0, rfl, Nat.le_refl _, by rw [ExL]; trivial⟩
theorem nulX_mem (w : World) : ExM w nulX (exCells 1 zeroVal 0 0 0 ⟨#[]⟩ none 0 0) := ExM.iff.2 ⟨okVal_zero, none, 0, rfl, Nat.le_refl _, by rw [ExL]; trivial⟩

set_option maxHeartbeats 1000000 in
theorem ref_any (rel col : Int) (w : World) : Calls Tryd.prog 19 #[.int .i64 rel, .int .i64 col] w fun e w' => e = .returned (.agg (exCells 2 zeroVal rel col 0 ⟨#[]⟩ none 0 0).toArray) ∧ Below w.heap.size w w' := by
  go_enter Tryd.func19, Tryd.ntmps19
  go_wp2
  refine bodyPost_ret (v := .agg (exCells 2 zeroVal rel col 0 ⟨#[]⟩ none 0 0).toArray) (by simp [results, Tryd.results19, go_sem, zeroVal]) rfl ⟨rfl, ?_⟩
  (repeat (first | exact ext_refl _ | assumption | (refine ext_alloc ?_ _) | (refine ext_drewN ?_ _) | refine ext_drew ?_ | (refine ext_set (by first | (simp; done) | (simp; omega)) _ ?_) | (refine ext_trans ?_ (by assumption))))
set_option maxHeartbeats 1000000 in
theorem num_any (n : Int) (w : World) : Calls Tryd.prog 20 #[.int .i64 n] w fun e w' => e = .returned (.agg (exCells 1 (num n) 0 0 0 ⟨#[]⟩ none 0 0).toArray) ∧ Below w.heap.size w w' := by
  go_enter Tryd.func20, Tryd.ntmps20
  go_wp2
  refine bodyPost_ret (v := .agg (exCells 1 (num n) 0 0 0 ⟨#[]⟩ none 0 0).toArray) (by simp [results, Tryd.results20, go_sem]) rfl ⟨rfl, ?_⟩
  (repeat (first | exact ext_refl _ | assumption | (refine ext_alloc ?_ _) | (refine ext_drewN ?_ _) | refine ext_drew ?_ | (refine ext_set (by first | (simp; done) | (simp; omega)) _ ?_) | (refine ext_trans ?_ (by assumption))))
/-- Two operands in a block of their own. -/
theorem pair_mem {W W' : World} {g : Nat} {x y : Ex} {cs ds : List Value} (hx : ExM W x cs) (hy : ExM W y ds) (hb : Below W.heap.size W W') (hg : g < W'.heap.size) (hc : ∀ (k : Nat) u, (cs ++ ds)[k]? = some u → W'.cell? ⟨g, k, none⟩ = some u) (hl : cs.length = 9) : ExL W' (some ⟨g, 0, none⟩) 0 [x, y] := by
  rw [ExL, ExL, ExL]
  refine ⟨⟨g, 0, cs, rfl, hg, ExM.ext hb _ _ hx, fun k u hu => ?_⟩, ⟨g, 0, ds, rfl, hg, ExM.ext hb _ _ hy, fun k u hu => ?_⟩, trivial⟩
  · rw [show 0 + 0 * 9 + k = k by omega]
    exact hc k u (by rw [List.getElem?_append_left (List.getElem?_eq_some_iff.1 hu).1]; exact hu)
  · rw [show 0 + (0 + 1) * 9 + k = 9 + k by omega]
    exact hc (9 + k) u (by rw [List.getElem?_append_right (by omega), hl, show 9 + k - 9 = k by omega]; exact hu)
theorem one_mem {W W' : World} {g : Nat} {x : Ex} {cs : List Value} (hx : ExM W x cs) (hb : Below W.heap.size W W') (hg : g < W'.heap.size) (hc : ∀ (k : Nat) u, cs[k]? = some u → W'.cell? ⟨g, k, none⟩ = some u) : ExL W' (some ⟨g, 0, none⟩) 0 [x] := by
  rw [ExL, ExL]
  refine ⟨⟨g, 0, cs, rfl, hg, ExM.ext hb _ _ hx, fun k u hu => ?_⟩, trivial⟩
  rw [show 0 + 0 * 9 + k = k by omega]
  exact hc k u hu
theorem ex_len {w : World} {x : Ex} {cs : List Value} (h : ExM w x cs) : cs.length = 9 := by
  obtain ⟨op, v, rel, col, n, s, l⟩ := x
  rw [ExM.iff] at h
  obtain ⟨-, q, c, rfl, -, -⟩ := h
  rfl

set_option maxHeartbeats 4000000 in
theorem two_any (op : Int) (x y : Ex) (cs ds : List Value) (w : World) (hx : ExM w x cs) (hy : ExM w y ds) : Calls Tryd.prog 18 #[.int .i64 op, .agg cs.toArray, .agg ds.toArray] w fun e w' =>
    (∃ g, e = .returned (.agg (exCells op zeroVal 0 0 0 ⟨#[]⟩ (some ⟨g, 0, none⟩) 2 2).toArray) ∧ ExM w' (twoX op x y) (exCells op zeroVal 0 0 0 ⟨#[]⟩ (some ⟨g, 0, none⟩) 2 2)) ∧ Below w.heap.size w w' := by
  have HX := Lib.hid hx
  have HY := Lib.hid hy
  obtain ⟨op1, v1, rel1, col1, n1, s1, l1⟩ := x
  obtain ⟨op2, v2, rel2, col2, n2, s2, l2⟩ := y
  rw [ExM.iff] at hx hy
  obtain ⟨-, q1, c1, rfl, -, -⟩ := hx
  obtain ⟨-, q2, c2, rfl, -, -⟩ := hy
  go_enter Tryd.func18, Tryd.ntmps18
  go_wp2
  obtain ⟨W, hW⟩ : ∃ W, W = ((w.alloc (.cells (exCells op1 v1 rel1 col1 n1 s1 q1 l1.length c1).toArray 26)).alloc (.cells (exCells op2 v2 rel2 col2 n2 s2 q2 l2.length c2).toArray 26)).alloc (.cells (exCells op zeroVal 0 0 0 ⟨#[]⟩ (some ⟨w.heap.size + 1 + 1 + 1, 0, none⟩) 2 2).toArray 26) := ⟨_, rfl⟩
  have hb : Below w.heap.size w W := by rw [hW]; (repeat (first | exact ext_refl _ | assumption | (refine ext_alloc ?_ _) | (refine ext_drewN ?_ _) | refine ext_drew ?_ | (refine ext_set (by first | (simp; done) | (simp; omega)) _ ?_) | (refine ext_trans ?_ (by assumption))))
  have hz : W.heap.size = w.heap.size + 1 + 1 + 1 := by rw [hW]; simp
  refine bodyPost_ret (v := .agg (exCells op zeroVal 0 0 0 ⟨#[]⟩ (some ⟨w.heap.size + 1 + 1 + 1, 0, none⟩) 2 2).toArray) (by simp [results, Tryd.results18, go_sem, zeroVal]) rfl ⟨⟨_, rfl, ExM.iff.2 ⟨okVal_zero, _, 2, rfl, Nat.le_refl _, ?_⟩⟩, ?_⟩
  · refine pair_mem (W := w) HX.out HY.out ?_ (by simp) (fun k u hu => ?_) rfl
    · (repeat (first | exact ext_refl _ | assumption | (refine ext_alloc ?_ _) | (refine ext_drewN ?_ _) | refine ext_drew ?_ | (refine ext_set (by first | (simp; done) | (simp; omega)) _ ?_) | (refine ext_trans ?_ (by assumption))))
    · have h := (Blk.new W 26 (exCells op1 v1 rel1 col1 n1 s1 q1 l1.length c1 ++ exCells op2 v2 rel2 col2 n2 s2 q2 l2.length c2).toArray).cell (k := k) (u := u) (by rw [List.getElem?_toArray]; exact hu)
      rw [hz] at h
      rw [hW] at h
      exact h
  · (repeat (first | exact ext_refl _ | assumption | (refine ext_alloc ?_ _) | (refine ext_drewN ?_ _) | refine ext_drew ?_ | (refine ext_set (by first | (simp; done) | (simp; omega)) _ ?_) | (refine ext_trans ?_ (by assumption))))

end Go.Proofs.YtiidfghdmaipoaaDoor

namespace Go.Proofs.YtiidfghdmaipoaaDoor
open Go.RowKit
set_option maxRecDepth 100000

def egText : ByteArray := ⟨#[40, 52, 32, 82, 48, 46, 49, 32, 73, 50, 41]⟩
theorem itoa_small (n : Nat) (h : n < 10) : Lib.itoa (n : Int) = [UInt8.ofNat (48 + n)] := by rw [Lib.itoa_nonneg, Lib.decDigits_one h]
theorem eg_right4 : rightE (twoX 4 (refX 0 1) (numX 2)) = true := by decide +kernel
theorem eg_text : textR (twoX 4 (refX 0 1) (numX 2)) = ([40, 52, 32, 82, 48, 46, 49, 32, 73, 50, 41], 0) := by
  unfold textR
  rw [if_pos eg_right4]
  have h0 := itoa_small 0 (by omega)
  have h1 := itoa_small 1 (by omega)
  have h2 := itoa_small 2 (by omega)
  have h4 := itoa_small 4 (by omega)
  rw [twoX, print_op (by decide), printL, printL, printL, refX, print_ref, numX, print_leaf1, printV, if_neg (by decide), if_pos rfl]
  show (40 :: Lib.itoa 4 ++ (32 :: (82 :: Lib.itoa 0 ++ [46] ++ Lib.itoa 1) ++ (32 :: (73 :: Lib.itoa 2) ++ [])) ++ [41], (0 : Int)) = _
  rw [show (Lib.itoa 4) = [52] from h4, show (Lib.itoa 0) = [48] from h0, show (Lib.itoa 1) = [49] from h1, show (Lib.itoa 2) = [50] from h2]
  rfl
abbrev divX : Ex := twoX 7 (numX 1) (numX 0)
theorem eg_div : rightE divX = true := by decide +kernel
theorem eg_eval1 : evalR [] [] (twoX 9 divX nulX) = (zeroVal, 4) := by kernel_rfl
theorem eg_eval2 : evalR [] [] (twoX 15 nulX (twoX 9 divX (numX 1))) = (zeroVal, 4) := by kernel_rfl
theorem eg_kind : kindR [[0, 1]] [] (twoX 11 (refX 0 1) (numX 2)) = (2, 0) := by decide +kernel
theorem eg_tables : tablesE (refX 2 0) = 4 := by decide +kernel

theorem VM_nil (w : World) : VM w (.slice none 0 0) (.slice none 0 0) [] [] := ⟨⟨none, 0, rfl, Nat.le_refl _, by omega, fun i hi => absurd hi (by simp)⟩, none, 0, rfl, Nat.le_refl _, by omega, fun i hi => absurd hi (by simp)⟩
theorem KM_eg (w : World) : KM ((w.alloc (.cells #[.int .i64 0, .int .i64 1] 3)).alloc (.cells #[.slice (some ⟨w.heap.size, 0, none⟩) 2 2] 45)) (.slice (some ⟨w.heap.size + 1, 0, none⟩) 1 1) (.slice none 0 0) [[0, 1]] [] := by
  obtain ⟨W1, hW1⟩ : ∃ W, W = w.alloc (.cells #[.int .i64 0, .int .i64 1] 3) := ⟨_, rfl⟩
  have b1 : Blk W1 w.heap.size 3 #[.int .i64 0, .int .i64 1] := by rw [hW1]; exact Blk.new _ _ _
  have z1 : W1.heap.size = w.heap.size + 1 := by rw [hW1]; simp
  rw [← hW1]
  have b1' := b1.alloc (.cells #[.slice (some ⟨w.heap.size, 0, none⟩) 2 2] 45)
  have b2 := Blk.new W1 45 #[.slice (some ⟨w.heap.size, 0, none⟩) 2 2]
  rw [z1] at b2
  refine ⟨⟨some ⟨w.heap.size + 1, 0, none⟩, 1, rfl, Nat.le_refl _, by omega, fun i hi => ⟨w.heap.size + 1, 0, rfl, Nat.zero_le _, b2.lt, fun j x hx => ?_⟩⟩, none, 0, rfl, Nat.le_refl _, by omega, fun i hi => absurd hi (by simp)⟩
  match j, hx with
  | 0, hx =>
    cases hx
    refine ⟨some ⟨w.heap.size, 0, none⟩, 2, b2.cell rfl, Nat.le_refl _, by omega, fun i hi => ⟨w.heap.size, 0, rfl, Nat.zero_le _, b1'.lt, fun j x hx => ?_⟩⟩
    match j, hx with
    | 0, hx => cases hx; exact b1'.cell rfl
    | 1, hx => cases hx; exact b1'.cell rfl
theorem RV_nil : RV [] [] := ⟨fun _ h => absurd h (by simp), fun _ h => absurd h (by simp)⟩

theorem set_self (A : Array Value) (k : Nat) : A.setIfInBounds k (A.getD k undef) = A := by
  apply Array.ext
  · simp
  · intro i h1 h2
    by_cases e : k = i
    · subst e
      simp [h2]
    · rw [Array.getElem_setIfInBounds_ne _ e]
theorem puts0 (A : Array Value) : (⟨A, []⟩ : Act) = ⟨(((((((((((A.setIfInBounds 30 (A.getD 30 undef)).setIfInBounds 31 (A.getD 31 undef)).setIfInBounds 32 (A.getD 32 undef)).setIfInBounds 33 (A.getD 33 undef)).setIfInBounds 34 (A.getD 34 undef)).setIfInBounds 35 (A.getD 35 undef)).setIfInBounds 29 (A.getD 29 undef)).setIfInBounds 36 (A.getD 36 undef)).setIfInBounds 37 (A.getD 37 undef)).setIfInBounds 7 (A.getD 7 undef)).setIfInBounds 8 (A.getD 8 undef)), []⟩ := by simp only [set_self]
/-- What stands where in the midst of the region: which operations have been done (b), what they gave (v). -/
structure E5 (W5 : World) (gq : Nat) (b0 b1 b2 b3 b4 b5 b6 b7 b8 b9 b10 b11 : Bool) (v0 v1 v2 v3 v4 v5 v6 v7 v8 v9 v11 : Value) (w : World) : Prop where
  bl : Below W5.heap.size W5 w
  f0 : b0 = true → v0 = .agg (exCells 1 zeroVal 0 0 0 ⟨#[]⟩ none 0 0).toArray
  f1 : b1 = true → v1 = .agg (exCells 7 zeroVal 0 0 0 ⟨#[]⟩ (some ⟨gq, 0, none⟩) 2 2).toArray
  f2 : b2 = true → v2 = .agg (exCells 1 (num 1) 0 0 0 ⟨#[]⟩ none 0 0).toArray
  f3 : b3 = true → ∃ g, v3 = .agg (exCells 9 zeroVal 0 0 0 ⟨#[]⟩ (some ⟨g, 0, none⟩) 2 2).toArray ∧ (b10 = false → ExM w (twoX 9 divX (numX 1)) (exCells 9 zeroVal 0 0 0 ⟨#[]⟩ (some ⟨g, 0, none⟩) 2 2))
  f4 : b4 = true → ∃ g, v4 = .agg (exCells 15 zeroVal 0 0 0 ⟨#[]⟩ (some ⟨g, 0, none⟩) 2 2).toArray ∧ (b10 = false → ExM w (twoX 15 nulX (twoX 9 divX (numX 1))) (exCells 15 zeroVal 0 0 0 ⟨#[]⟩ (some ⟨g, 0, none⟩) 2 2))
  f5 : b5 = true → v5 = .tuple #[zeroVal.v, .int .i64 4]
  f6 : b6 = true → v6 = .tuple #[zeroVal.v, .int .i64 4]
  f7 : b7 = true → v7 = zeroVal.v
  f8 : b8 = true → v8 = .int .i64 4
  f9 : b9 = true → ∃ b, v9 = .pointer (some ⟨b, 0, none⟩) ∧ W5.heap.size ≤ b ∧ TV w b 0 0 ⟨#[]⟩
  f11 : b11 = true → v11 = .int .i64 4
  o43 : b4 = true → b3 = true
  o54 : b5 = true → b4 = true
  o10 : b10 = true → b5 = true
theorem E5.on {W5 : World} {gq : Nat} {b0 b1 b2 b3 b4 b5 b6 b7 b8 b9 b10 b11 : Bool} {v0 v1 v2 v3 v4 v5 v6 v7 v8 v9 v11 : Value} {w w' : World} (h : E5 W5 gq b0 b1 b2 b3 b4 b5 b6 b7 b8 b9 b10 b11 v0 v1 v2 v3 v4 v5 v6 v7 v8 v9 v11 w) (hb : Below w.heap.size w w') (hs : W5.heap.size ≤ w.heap.size) : E5 W5 gq b0 b1 b2 b3 b4 b5 b6 b7 b8 b9 b10 b11 v0 v1 v2 v3 v4 v5 v6 v7 v8 v9 v11 w' :=
  { h with
    bl := h.bl.trans (hb.mono hs)
    f3 := fun e => by obtain ⟨g, h1, h2⟩ := h.f3 e; exact ⟨g, h1, fun e' => ExM.ext hb _ _ (h2 e')⟩
    f4 := fun e => by obtain ⟨g, h1, h2⟩ := h.f4 e; exact ⟨g, h1, fun e' => ExM.ext hb _ _ (h2 e')⟩
    f9 := fun e => by obtain ⟨b, h1, h2, h3⟩ := h.f9 e; exact ⟨b, h1, h2, h3.on hb⟩ }

set_option maxHeartbeats 8000000 in
theorem examples_any (w : World) (hG : GE w) : Calls Tryd.prog 4 #[] w fun e w' => e = .returned (.bool true) ∧ Below w.heap.size w w' := by
  have HG := Lib.hid hG
  clear hG
  go_enter Tryd.func4, Tryd.ntmps4
  go_wp2_with fail
  refine (ref_any 0 1 w).mono ?_
  rintro e w1 ⟨rfl, b1⟩
  have B1 := Lib.hid b1
  clear b1
  go_wp2_with fail
  refine (num_any 2 w1).mono ?_
  rintro e w2 ⟨rfl, b2⟩
  have B2 := Lib.hid (ext_trans B1.out b2)
  clear b2
  go_wp2_with fail
  refine (two_any 4 (refX 0 1) (numX 2) _ _ w2 (refX_mem _ _ _) (numX_mem _ rfl)).mono ?_
  rintro e w3 ⟨⟨g3, rfl, M3⟩, b3⟩
  have B3 := Lib.hid (ext_trans B2.out b3)
  have H3 := Lib.hid M3
  clear b3 M3 B1 B2
  go_wp2_with fail
  refine (dtext_any _ _ w3 H3.out (HG.out.on B3.out)).mono ?_
  rintro e w4 ⟨he, b4⟩
  rw [eg_text] at he
  replace he : e = .returned (.tuple #[.string ⟨#[40, 52, 32, 82, 48, 46, 49, 32, 73, 50, 41]⟩, .int .i64 0]) := he
  subst he
  have B4 := Lib.hid (ext_trans B3.out b4)
  clear b4 B3 H3
  -- NULL in a variable
  go_upto_region 3 with fail
  have EN := EB.new w4 1 zeroVal 0 0 0 ⟨#[]⟩ none 0 0 26
  obtain ⟨U, hU⟩ : ∃ U, U = w4.alloc (.cells (exCells 1 zeroVal 0 0 0 ⟨#[]⟩ none 0 0).toArray 26) := ⟨_, rfl⟩
  have bU : Below w.heap.size w U := by rw [hU]; exact ext_alloc B4.out _
  rw [← hU] at EN
  have HU := Lib.hid hU
  have BU := Lib.hid bU
  have HN0 := Lib.hid EN
  obtain ⟨gN, hgN⟩ : ∃ g, g = w4.heap.size := ⟨_, rfl⟩
  have HGN := Lib.hid hgN
  rw [← hgN] at HN0
  change Code.wp _ _ _ _ (w4.alloc (.cells (exCells 1 zeroVal 0 0 0 ⟨#[]⟩ none 0 0).toArray 26))
  rw [← HU.out, ← hgN]
  clear hU bU EN hgN B4 HU
  go_wp2_with fail
  refine (num_any 1 U).mono ?_
  rintro e w1' ⟨rfl, b1⟩
  have B1 := Lib.hid (ext_trans BU.out b1)
  have HN1 := Lib.hid (HN0.out.on b1)
  clear b1 HN0
  go_wp2_with fail
  refine (num_any 0 w1').mono ?_
  rintro e w2' ⟨rfl, b2⟩
  have B2 := Lib.hid (ext_trans B1.out b2)
  have HN2 := Lib.hid (HN1.out.on b2)
  clear b2 HN1
  go_wp2_with fail
  refine (two_any 7 (numX 1) (numX 0) _ _ w2' (numX_mem _ rfl) (numX_mem _ rfl)).mono ?_
  rintro e w3' ⟨⟨gq, rfl, M3⟩, b3⟩
  have B3 := Lib.hid (ext_trans B2.out b3)
  have HN3 := Lib.hid (HN2.out.on b3)
  have HQ3 := Lib.hid M3
  clear b3 M3 HN2 B1 B2
  go_upto_region 4 with fail
  have ED := EB.new w3' 7 zeroVal 0 0 0 ⟨#[]⟩ (some ⟨gq, 0, none⟩) 2 2 26
  obtain ⟨V, hV⟩ : ∃ V, V = w3'.alloc (.cells (exCells 7 zeroVal 0 0 0 ⟨#[]⟩ (some ⟨gq, 0, none⟩) 2 2).toArray 26) := ⟨_, rfl⟩
  rw [← hV] at ED
  have hbV : Below w3'.heap.size w3' V := by rw [hV]; exact ext_alloc (ext_refl _) _
  obtain ⟨gD, hgD⟩ : ∃ g, g = w3'.heap.size := ⟨_, rfl⟩
  change Code.wp _ _ _ _ (w3'.alloc (.cells (exCells 7 zeroVal 0 0 0 ⟨#[]⟩ (some ⟨gq, 0, none⟩) 2 2).toArray 26))
  rw [← hV, ← hgD]
  rw [← hgD] at ED
  have BV := Lib.hid (ext_trans B3.out hbV)
  have HNV := Lib.hid (HN3.out.on hbV)
  have HMV := Lib.hid (ExM.ext hbV _ _ HQ3.out)
  have HDV := Lib.hid ED
  clear hV hbV hgD ED B3 HN3 HQ3
  obtain ⟨lN, n0, n1, n2, n3, n4, n5, n6, n7, n8⟩ := HNV.out
  obtain ⟨lD, d0, d1, d2, d3, d4, d5, d6, d7, d8⟩ := HDV.out
  go_wp2_with fail
  refine (two_any 9 divX nulX _ _ V HMV.out (nulX_mem _)).mono ?_
  rintro e w5 ⟨⟨g5, rfl, M5⟩, b5⟩
  have B5 := Lib.hid (ext_trans BV.out b5)
  have HN5 := Lib.hid (HNV.out.on b5)
  have HD5 := Lib.hid (HDV.out.on b5)
  have HM5 := Lib.hid (ExM.ext b5 _ _ HMV.out)
  have H5 := Lib.hid M5
  clear b5 M5 lN n0 n1 n2 n3 n4 n5 n6 n7 n8 lD d0 d1 d2 d3 d4 d5 d6 d7 d8 BV HNV HMV HDV BU
  go_wp2_with fail
  refine (deval_any _ _ w5 _ _ [] [] H5.out (VM_nil _) RV_nil (HG.out.on B5.out)).mono ?_
  rintro e w6 ⟨he, b6⟩
  rw [eg_eval1] at he
  subst he
  go_upto_region 5 with fail
  obtain ⟨W5, hW5⟩ : ∃ W, W = w6.alloc (.cells #[.int .i64 0, .int .i64 0, .string ⟨#[]⟩] 23) := ⟨_, rfl⟩
  have hb6 : Below w5.heap.size w5 W5 := by rw [hW5]; exact ext_alloc b6 _
  change Code.wp _ _ _ _ (w6.alloc (.cells #[.int .i64 0, .int .i64 0, .string ⟨#[]⟩] 23))
  rw [← hW5]
  have B6 := Lib.hid (ext_trans B5.out hb6)
  have HN := Lib.hid (HN5.out.on hb6)
  have HD := Lib.hid (HD5.out.on hb6)
  have HM := Lib.hid (ExM.ext hb6 _ _ HM5.out)
  clear hW5 hb6 b6 B5 HN5 HD5 HM5 H5
  obtain ⟨lN, n0, n1, n2, n3, n4, n5, n6, n7, n8⟩ := HN.out
  obtain ⟨lD, d0, d1, d2, d3, d4, d5, d6, d7, d8⟩ := HD.out

  go_cut [7, 8] (fun _ v wc => v = .int .i64 4 ∧ Hid (Below W5.heap.size W5 wc))
  case first =>
    refine wp_region_inv' (by kernel_rfl) (fun A listed a w => ∃ (b0 b1 b2 b3 b4 b5 b6 b7 b8 b9 b10 b11 : Bool) (v0 v1 v2 v3 v4 v5 v6 v7 v8 v9 v11 : Value), listed = #[b0, b1, b2, b3, b4, b5, b6, b7, b8, b9, b10, b11] ∧ a = ⟨(((((((((((A.setIfInBounds 30 v0).setIfInBounds 31 v1).setIfInBounds 32 v2).setIfInBounds 33 v3).setIfInBounds 34 v4).setIfInBounds 35 v5).setIfInBounds 29 v6).setIfInBounds 36 v7).setIfInBounds 37 v8).setIfInBounds 7 v9).setIfInBounds 8 v11), []⟩ ∧ E5 W5 gq b0 b1 b2 b3 b4 b5 b6 b7 b8 b9 b10 b11 v0 v1 v2 v3 v4 v5 v6 v7 v8 v9 v11 w) ?_ ?_ ?_
    · refine ⟨false, false, false, false, false, false, false, false, false, false, false, false, _, _, _, _, _, _, _, _, _, _, _, rfl, puts0 _, ?_⟩
      constructor
      all_goals first
        | exact ext_drew (ext_refl _)
        | (intro h; cases h)
    · rintro listed a w' i hs ⟨b0, b1, b2, b3, b4, b5, b6, b7, b8, b9, b10, b11, v0, v1, v2, v3, v4, v5, v6, v7, v8, v9, v11, rfl, rfl, H⟩ hi
      have hun := (mem_ready.1 hi).1
      have hi12 : i < 12 := (unlisted_ready hi).1
      have h12 : i = 0 ∨ i = 1 ∨ i = 2 ∨ i = 3 ∨ i = 4 ∨ i = 5 ∨ i = 6 ∨ i = 7 ∨ i = 8 ∨ i = 9 ∨ i = 10 ∨ i = 11 := by omega
      clear hi12 hs
      rcases h12 with rfl | rfl | rfl | rfl | rfl | rfl | rfl | rfl | rfl | rfl | rfl | rfl
      · have hui : b0 = false := hun
        clear hun

        refine wpOp_alone rfl rfl ?_
        clear hi
        intro K' hK
        simp only [List.setIfInBounds_toArray, List.set_cons_succ, List.set_cons_zero]
        obtain ⟨lN, n0, n1, n2, n3, n4, n5, n6, n7, n8⟩ := HN.out.on H.bl
        go_wp2_with fail
        refine hK _ _ ⟨true, b1, b2, b3, b4, b5, b6, b7, b8, b9, b10, b11, _, v1, v2, v3, v4, v5, v6, v7, v8, v9, v11, by simp, by (simp only [List.setIfInBounds_toArray, List.set_cons_succ, List.set_cons_zero]); (try rfl), ?_⟩
        exact { H with f0 := fun _ => rfl }
      · have hui : b1 = false := hun
        clear hun

        refine wpOp_alone rfl rfl ?_
        clear hi
        intro K' hK
        simp only [List.setIfInBounds_toArray, List.set_cons_succ, List.set_cons_zero]
        obtain ⟨lN, n0, n1, n2, n3, n4, n5, n6, n7, n8⟩ := HD.out.on H.bl
        go_wp2_with fail
        refine hK _ _ ⟨b0, true, b2, b3, b4, b5, b6, b7, b8, b9, b10, b11, v0, _, v2, v3, v4, v5, v6, v7, v8, v9, v11, by simp, by (simp only [List.setIfInBounds_toArray, List.set_cons_succ, List.set_cons_zero]); (try rfl), ?_⟩
        exact { H with f1 := fun _ => rfl }
      · have hui : b2 = false := hun
        clear hun

        refine wpOp_alone rfl rfl ?_
        clear hi
        intro K' hK
        simp only [List.setIfInBounds_toArray, List.set_cons_succ, List.set_cons_zero]
        go_wp2_with fail
        refine (num_any 1 w').mono ?_
        rintro e w'' ⟨rfl, hb⟩
        have H2 := H.on hb H.bl.size
        go_wp2_with fail
        refine hK _ _ ⟨b0, b1, true, b3, b4, b5, b6, b7, b8, b9, b10, b11, v0, v1, _, v3, v4, v5, v6, v7, v8, v9, v11, by simp, by (simp only [List.setIfInBounds_toArray, List.set_cons_succ, List.set_cons_zero]); (try rfl), ?_⟩
        exact { H2 with f2 := fun _ => rfl }
      · have hui : b3 = false := hun
        clear hun
        have p1 : b1 = true := ready_pred hi rfl ⟨1, .data⟩ (by simp) rfl
        have p2 : b2 = true := ready_pred hi rfl ⟨2, .data⟩ (by simp) rfl
        refine wpOp_alone rfl rfl ?_
        clear hi
        intro K' hK
        simp only [List.setIfInBounds_toArray, List.set_cons_succ, List.set_cons_zero]
        obtain rfl := H.f1 p1
        obtain rfl := H.f2 p2
        have n10 : b10 = false := by cases hb : b10 with
          | false => rfl
          | true => exact absurd (H.o43 (H.o54 (H.o10 hb))) (by rw [hui]; decide)
        go_wp2_with fail
        refine (two_any 9 divX (numX 1) _ _ w' (ExM.ext H.bl _ _ HM.out) (numX_mem _ rfl)).mono ?_
        rintro e w'' ⟨⟨g, rfl, M⟩, hb⟩
        have H2 := H.on hb H.bl.size
        go_wp2_with fail
        refine hK _ _ ⟨b0, b1, b2, true, b4, b5, b6, b7, b8, b9, b10, b11, v0, _, _, _, v4, v5, v6, v7, v8, v9, v11, by simp, by (simp only [List.setIfInBounds_toArray, List.set_cons_succ, List.set_cons_zero]); (try rfl), ?_⟩
        exact { H2 with f3 := fun _ => ⟨g, rfl, fun _ => M⟩, o43 := fun _ => rfl }
      · have hui : b4 = false := hun
        clear hun
        have p0 : b0 = true := ready_pred hi rfl ⟨0, .data⟩ (by simp) rfl
        have p3 : b3 = true := ready_pred hi rfl ⟨3, .data⟩ (by simp) rfl
        refine wpOp_alone rfl rfl ?_
        clear hi
        intro K' hK
        simp only [List.setIfInBounds_toArray, List.set_cons_succ, List.set_cons_zero]
        obtain rfl := H.f0 p0
        obtain ⟨g3', rfl, M3⟩ := H.f3 p3
        have n10 : b10 = false := by cases hb : b10 with
          | false => rfl
          | true => exact absurd (H.o54 (H.o10 hb)) (by rw [hui]; decide)
        go_wp2_with fail
        refine (two_any 15 nulX (twoX 9 divX (numX 1)) _ _ w' (nulX_mem _) (M3 n10)).mono ?_
        rintro e w'' ⟨⟨g, rfl, M⟩, hb⟩
        have H2 := H.on hb H.bl.size
        go_wp2_with fail
        refine hK _ _ ⟨b0, b1, b2, b3, true, b5, b6, b7, b8, b9, b10, b11, _, v1, v2, _, _, v5, v6, v7, v8, v9, v11, by simp, by (simp only [List.setIfInBounds_toArray, List.set_cons_succ, List.set_cons_zero]); (try rfl), ?_⟩
        exact { H2 with f4 := fun _ => ⟨g, rfl, fun _ => M⟩, o43 := fun _ => p3, o54 := fun _ => rfl }
      · have hui : b5 = false := hun
        clear hun
        have p4 : b4 = true := ready_pred hi rfl ⟨4, .data⟩ (by simp) rfl
        refine wpOp_alone rfl rfl ?_
        clear hi
        intro K' hK
        simp only [List.setIfInBounds_toArray, List.set_cons_succ, List.set_cons_zero]
        obtain ⟨g4', rfl, M4⟩ := H.f4 p4
        have n10 : b10 = false := by cases hb : b10 with
          | false => rfl
          | true => exact absurd (H.o10 hb) (by rw [hui]; decide)
        go_wp2_with fail
        refine (deval_any _ _ w' _ _ [] [] (M4 n10) (VM_nil _) RV_nil (HG.out.on (B6.out.trans (H.bl.mono B6.out.size)))).mono ?_
        rintro e w'' ⟨he, hb⟩
        rw [eg_eval2] at he
        subst he
        have H2 := H.on hb H.bl.size
        go_wp2_with fail
        refine hK _ _ ⟨b0, b1, b2, b3, b4, true, b6, b7, b8, b9, b10, b11, v0, v1, v2, v3, _, _, v6, v7, v8, v9, v11, by simp, by (simp only [List.setIfInBounds_toArray, List.set_cons_succ, List.set_cons_zero]); (try rfl), ?_⟩
        exact { H2 with f5 := fun _ => rfl, o54 := fun _ => p4, o10 := fun _ => rfl }
      · have hui : b6 = false := hun
        clear hun
        have p5 : b5 = true := ready_pred hi rfl ⟨5, .data⟩ (by simp) rfl
        refine wpOp_alone rfl rfl ?_
        clear hi
        intro K' hK
        simp only [List.setIfInBounds_toArray, List.set_cons_succ, List.set_cons_zero]
        obtain rfl := H.f5 p5
        go_wp2_with fail
        refine hK _ _ ⟨b0, b1, b2, b3, b4, b5, true, b7, b8, b9, b10, b11, v0, v1, v2, v3, v4, _, _, v7, v8, v9, v11, by simp, by (simp only [List.setIfInBounds_toArray, List.set_cons_succ, List.set_cons_zero]); (try rfl), ?_⟩
        exact { H with f6 := fun _ => rfl }
      · have hui : b7 = false := hun
        clear hun
        have p6 : b6 = true := ready_pred hi rfl ⟨6, .data⟩ (by simp) rfl
        refine wpOp_alone rfl rfl ?_
        clear hi
        intro K' hK
        simp only [List.setIfInBounds_toArray, List.set_cons_succ, List.set_cons_zero]
        obtain rfl := H.f6 p6
        go_wp2_with fail
        refine hK _ _ ⟨b0, b1, b2, b3, b4, b5, b6, true, b8, b9, b10, b11, v0, v1, v2, v3, v4, v5, _, _, v8, v9, v11, by simp, by (simp only [List.setIfInBounds_toArray, List.set_cons_succ, List.set_cons_zero]); (try rfl), ?_⟩
        exact { H with f7 := fun _ => rfl }
      · have hui : b8 = false := hun
        clear hun
        have p6 : b6 = true := ready_pred hi rfl ⟨6, .data⟩ (by simp) rfl
        refine wpOp_alone rfl rfl ?_
        clear hi
        intro K' hK
        simp only [List.setIfInBounds_toArray, List.set_cons_succ, List.set_cons_zero]
        obtain rfl := H.f6 p6
        go_wp2_with fail
        refine hK _ _ ⟨b0, b1, b2, b3, b4, b5, b6, b7, true, b9, b10, b11, v0, v1, v2, v3, v4, v5, _, v7, _, v9, v11, by simp, by (simp only [List.setIfInBounds_toArray, List.set_cons_succ, List.set_cons_zero]); (try rfl), ?_⟩
        exact { H with f8 := fun _ => rfl }
      · have hui : b9 = false := hun
        clear hun

        refine wpOp_alone rfl rfl ?_
        clear hi
        intro K' hK
        simp only [List.setIfInBounds_toArray, List.set_cons_succ, List.set_cons_zero]
        have hb := ext_alloc (ext_refl w') (.cells #[.int .i64 0, .int .i64 0, .string ⟨#[]⟩] 23)
        have H2 := H.on hb H.bl.size
        have T := TV.new w'
        have hsz := H.bl.size
        go_wp2_with fail
        refine hK _ _ ⟨b0, b1, b2, b3, b4, b5, b6, b7, b8, true, b10, b11, v0, v1, v2, v3, v4, v5, v6, v7, v8, _, v11, by simp, by (simp only [List.setIfInBounds_toArray, List.set_cons_succ, List.set_cons_zero]); (try rfl), ?_⟩
        exact { H2 with f9 := fun _ => ⟨_, rfl, hsz, T⟩ }
      · have hui : b10 = false := hun
        clear hun
        have p9 : b9 = true := ready_pred hi rfl ⟨9, .data⟩ (by simp) rfl
        have p7 : b7 = true := ready_pred hi rfl ⟨7, .data⟩ (by simp) rfl
        have p5 : b5 = true := ready_pred hi rfl ⟨5, .chain⟩ (by simp) rfl
        refine wpOp_alone rfl rfl ?_
        clear hi
        intro K' hK
        simp only [List.setIfInBounds_toArray, List.set_cons_succ, List.set_cons_zero]
        obtain ⟨b, rfl, hlb, T⟩ := H.f9 p9
        obtain rfl := H.f7 p7
        obtain ⟨lT, t0, t1, t2, tf⟩ := id T
        have hb := ext_val H.bl hlb 0 0 ⟨#[]⟩
        have T2 := T.all 0 0 ⟨#[]⟩
        go_wp2_with fail
        refine hK _ _ ⟨b0, b1, b2, b3, b4, b5, b6, b7, b8, b9, true, b11, v0, v1, v2, v3, v4, v5, v6, _, v8, _, v11, by simp, by (simp only [List.setIfInBounds_toArray, List.set_cons_succ, List.set_cons_zero]); (try rfl), ?_⟩
        exact { H with bl := hb, f3 := fun e => by obtain ⟨g, h1, _⟩ := H.f3 e; exact ⟨g, h1, fun e => by cases e⟩, f4 := fun e => by obtain ⟨g, h1, _⟩ := H.f4 e; exact ⟨g, h1, fun e => by cases e⟩, f9 := fun _ => ⟨b, rfl, hlb, T2⟩, o10 := fun _ => p5 }
      · have hui : b11 = false := hun
        clear hun
        have p8 : b8 = true := ready_pred hi rfl ⟨8, .data⟩ (by simp) rfl
        refine wpOp_alone rfl rfl ?_
        clear hi
        intro K' hK
        simp only [List.setIfInBounds_toArray, List.set_cons_succ, List.set_cons_zero]
        obtain rfl := H.f8 p8
        go_wp2_with fail
        refine hK _ _ ⟨b0, b1, b2, b3, b4, b5, b6, b7, b8, b9, b10, true, v0, v1, v2, v3, v4, v5, v6, v7, _, v9, _, by simp, by (simp only [List.setIfInBounds_toArray, List.set_cons_succ, List.set_cons_zero]); (try rfl), ?_⟩
        exact { H with f11 := fun _ => rfl }
    · rintro listed a w' hs ⟨b0, b1, b2, b3, b4, b5, b6, b7, b8, b9, b10, b11, v0, v1, v2, v3, v4, v5, v6, v7, v8, v9, v11, rfl, rfl, H⟩ hr
      have h11 : b11 = true := ready_nil_all (i := 11) (by kernel_rfl) hs hr (by decide)
      obtain rfl := H.f11 h11
      simp only [List.setIfInBounds_toArray, List.set_cons_succ, List.set_cons_zero]
      go_wp2_with fail
      go_meet
      exact ⟨rfl, H.bl⟩
  case rest =>
    obtain ⟨rfl, hbc⟩ := hcut
    have Bc := Lib.hid (B6.out.trans (hbc.out.mono B6.out.size))
    have HDc := Lib.hid (HD.out.on hbc.out)
    have HMc := Lib.hid (ExM.ext hbc.out _ _ HM.out)
    clear hbc HN HD HM B6 lN n0 n1 n2 n3 n4 n5 n6 n7 n8 lD d0 d1 d2 d3 d4 d5 d6 d7 d8
    go_wp2_with fail
    refine (ref_any 0 1 wc).mono ?_
    rintro e x1 ⟨rfl, b1⟩
    go_wp2_with fail
    refine (num_any 2 x1).mono ?_
    rintro e x2 ⟨rfl, b2⟩
    have b12 := ext_trans b1 b2
    clear b1 b2
    go_wp2_with fail
    refine (two_any 11 (refX 0 1) (numX 2) _ _ x2 (refX_mem _ _ _) (numX_mem _ rfl)).mono ?_
    rintro e x3 ⟨⟨gk, rfl, M3⟩, b3⟩
    have b13 := ext_trans b12 b3
    have B3 := Lib.hid (Bc.out.trans (b13.mono Bc.out.size))
    have HD3 := Lib.hid (HDc.out.on b13)
    have HM3 := Lib.hid (ExM.ext b13 _ _ HMc.out)
    have HK3 := Lib.hid M3
    clear b12 b3 b13 M3 Bc HDc HMc
    go_wp2_with fail
    refine (dkind_any _ _ _ _ _ [[0, 1]] [] (ExM.ext (by (repeat (first | exact ext_refl _ | assumption | (refine ext_alloc ?_ _) | (refine ext_drewN ?_ _) | refine ext_drew ?_ | (refine ext_set (by first | (simp; done) | (simp; omega)) _ ?_) | (refine ext_trans ?_ (by assumption))))) _ _ HK3.out) (KM_eg x3) (HG.out.on (by (first | (refine ext_trans B3.out ?_) | skip); (repeat (first | exact ext_refl _ | assumption | (refine ext_alloc ?_ _) | (refine ext_drewN ?_ _) | refine ext_drew ?_ | (refine ext_set (by first | (simp; done) | (simp; omega)) _ ?_) | (refine ext_trans ?_ (by assumption))))))).mono ?_
    rintro e Y ⟨he, hbY⟩
    rw [eg_kind] at he
    subst he
    have bY : Below x3.heap.size x3 Y := by (repeat (first | exact ext_refl _ | assumption | (refine ext_alloc ?_ _) | (refine ext_drewN ?_ _) | refine ext_drew ?_ | (refine ext_set (by first | (simp; done) | (simp; omega)) _ ?_) | (refine ext_trans ?_ (by assumption))))
    have BY := Lib.hid (B3.out.trans (bY.mono B3.out.size))
    have HDY := Lib.hid (HD3.out.on bY)
    have HMY := Lib.hid (ExM.ext bY _ _ HM3.out)
    clear hbY bY B3 HD3 HM3 HK3
    obtain ⟨lD, d0, d1, d2, d3, d4, d5, d6, d7, d8⟩ := HDY.out
    go_wp2_with fail
    refine (dright_any divX _ Y HMY.out (HG.out.on BY.out)).mono ?_
    rintro e Z ⟨he, hbZ⟩
    rw [eg_div] at he
    subst he
    have BZ := Lib.hid (BY.out.trans (hbZ.mono BY.out.size))
    clear hbZ lD d0 d1 d2 d3 d4 d5 d6 d7 d8 BY HDY HMY
    go_wp2_with fail
    refine (ref_any 2 0 Z).mono ?_
    rintro e z1 ⟨rfl, b1⟩
    have B1z := Lib.hid (BZ.out.trans (b1.mono BZ.out.size))
    clear b1
    go_wp2_with fail
    refine (dtables_any (refX 2 0) _ z1 (refX_mem _ _ _) (HG.out.on B1z.out)).mono ?_
    rintro e z2 ⟨he, b2⟩
    rw [eg_tables] at he
    subst he
    have B2z := Lib.hid (B1z.out.trans (b2.mono B1z.out.size))
    clear b2
    go_wp2_with fail
    refine bodyPost_ret (v := .bool true) (by simp [results, Tryd.results4, go_sem]) rfl ⟨rfl, B2z.out⟩

end Go.Proofs.YtiidfghdmaipoaaDoor

namespace Go.Proofs.YtiidfghdmaipoaaDoor
open Go.RowKit
set_option maxRecDepth 100000

/-- Right, told by its operands. -/
theorem right_iff {x : Ex} : rightE x = true ↔ x.okAll = true ∧ x.deep ≤ 20 ∧ x.count ≤ 200 := by
  unfold rightE sizesE
  by_cases h : x.okAll = true ∧ x.deep ≤ 20 ∧ x.count ≤ 200
  · rw [if_pos h]; exact ⟨fun _ => h, fun _ => rfl⟩
  · rw [if_neg h]; exact ⟨fun h' => (by cases h'), fun h' => absurd h' h⟩
theorem right_mem {op : Int} {v : Val} {rel col n : Int} {s : ByteArray} {l : List Ex} {y : Ex} (h : rightE (.mk op v rel col n s l) = true) (hy : y ∈ l) : rightE y = true := by
  rw [right_iff] at h ⊢
  obtain ⟨h1, h2, h3⟩ := h
  rw [Ex.okAll, Bool.and_eq_true] at h1
  rw [Ex.deep] at h2
  rw [Ex.count] at h3
  obtain ⟨i, hi, he⟩ := List.getElem_of_mem hy
  have hg : l[i]? = some y := by rw [List.getElem?_eq_getElem hi, he]
  have d := deepL_mem hg
  have c := countL_step hg
  have c2 := countL_le l (i + 1)
  exact ⟨okL_all h1.2 hg, by omega, by omega⟩
theorem few_wrong (x : Ex) : rightE (oneX 15 x) = false := by
  rw [Bool.eq_false_iff]
  intro h
  have h1 := (right_iff.1 h).1
  rw [oneX, Ex.okAll, Bool.and_eq_true] at h1
  exact absurd h1.1 (by simp [headOk, wantsOf])
theorem many_wrong (x y : Ex) : rightE (twoX 17 x y) = false := by
  rw [Bool.eq_false_iff]
  intro h
  have h1 := (right_iff.1 h).1
  rw [twoX, Ex.okAll, Bool.and_eq_true] at h1
  exact absurd h1.1 (by simp [headOk, wantsOf])
theorem odd_wrong (x y : Ex) : rightE (.mk 15 zeroVal 0 0 1 ⟨#[]⟩ [x, y]) = false := by
  rw [Bool.eq_false_iff]
  intro h
  have h1 := (right_iff.1 h).1
  rw [Ex.okAll, Bool.and_eq_true] at h1
  exact absurd h1.1 (by simp [headOk, wantsOf])
theorem safe_and (x y : Ex) : (twoX 15 x y).safe = (x.safe && y.safe) := by
  rw [twoX, Ex.safe, safeL, safeL, safeL, Bool.and_true]
  simp

/-- One operand, and the operation over it, in new blocks. -/
theorem one_new (W : World) {x : Ex} {cs : List Value} (op : Int) (hx : ExM W x cs) : EB ((W.alloc (.cells cs.toArray 26)).alloc (.cells (exCells op zeroVal 0 0 0 ⟨#[]⟩ (some ⟨W.heap.size, 0, none⟩) 1 1).toArray 26)) (W.heap.size + 1) op zeroVal 0 0 0 ⟨#[]⟩ (some ⟨W.heap.size, 0, none⟩) 1 1 ∧
    ExM ((W.alloc (.cells cs.toArray 26)).alloc (.cells (exCells op zeroVal 0 0 0 ⟨#[]⟩ (some ⟨W.heap.size, 0, none⟩) 1 1).toArray 26)) (oneX op x) (exCells op zeroVal 0 0 0 ⟨#[]⟩ (some ⟨W.heap.size, 0, none⟩) 1 1) ∧
    Below W.heap.size W ((W.alloc (.cells cs.toArray 26)).alloc (.cells (exCells op zeroVal 0 0 0 ⟨#[]⟩ (some ⟨W.heap.size, 0, none⟩) 1 1).toArray 26)) := by
  have e := EB.new (W.alloc (.cells cs.toArray 26)) op zeroVal 0 0 0 ⟨#[]⟩ (some ⟨W.heap.size, 0, none⟩) 1 1 26
  have z : (W.alloc (.cells cs.toArray 26)).heap.size = W.heap.size + 1 := by simp
  rw [z] at e
  refine ⟨e, ExM.iff.2 ⟨okVal_zero, _, 1, rfl, Nat.le_refl _, one_mem hx ?_ (by simp) fun k u hu => ?_⟩, ?_⟩
  · exact ext_alloc (ext_alloc (ext_refl _) _) _
  · exact ((Blk.new W 26 cs.toArray).alloc _).cell (by rw [List.getElem?_toArray]; exact hu)
  · exact ext_alloc (ext_alloc (ext_refl _) _) _
theorem pair_new (W : World) {x y : Ex} {cs ds : List Value} (op : Int) (hx : ExM W x cs) (hy : ExM W y ds) : EB ((W.alloc (.cells (cs ++ ds).toArray 26)).alloc (.cells (exCells op zeroVal 0 0 0 ⟨#[]⟩ (some ⟨W.heap.size, 0, none⟩) 2 2).toArray 26)) (W.heap.size + 1) op zeroVal 0 0 0 ⟨#[]⟩ (some ⟨W.heap.size, 0, none⟩) 2 2 ∧
    ExM ((W.alloc (.cells (cs ++ ds).toArray 26)).alloc (.cells (exCells op zeroVal 0 0 0 ⟨#[]⟩ (some ⟨W.heap.size, 0, none⟩) 2 2).toArray 26)) (twoX op x y) (exCells op zeroVal 0 0 0 ⟨#[]⟩ (some ⟨W.heap.size, 0, none⟩) 2 2) ∧
    Below W.heap.size W ((W.alloc (.cells (cs ++ ds).toArray 26)).alloc (.cells (exCells op zeroVal 0 0 0 ⟨#[]⟩ (some ⟨W.heap.size, 0, none⟩) 2 2).toArray 26)) := by
  have e := EB.new (W.alloc (.cells (cs ++ ds).toArray 26)) op zeroVal 0 0 0 ⟨#[]⟩ (some ⟨W.heap.size, 0, none⟩) 2 2 26
  have z : (W.alloc (.cells (cs ++ ds).toArray 26)).heap.size = W.heap.size + 1 := by simp
  rw [z] at e
  refine ⟨e, ExM.iff.2 ⟨okVal_zero, _, 2, rfl, Nat.le_refl _, pair_mem hx hy ?_ (by simp) (fun k u hu => ?_) (ex_len hx)⟩, ?_⟩
  · exact ext_alloc (ext_alloc (ext_refl _) _) _
  · exact ((Blk.new W 26 (cs ++ ds).toArray).alloc _).cell (by rw [List.getElem?_toArray]; exact hu)
  · exact ext_alloc (ext_alloc (ext_refl _) _) _

end Go.Proofs.YtiidfghdmaipoaaDoor
