/- A part of the proof. -/
import Derived.Test.YtklgoajgchfmeaaDoorKc
import Derived.Test.YtklgoajgchfmeaaDoorKf
import Derived.Laws.BytesString
import Derived.Test.YtklgoajgchfmeaaDoorExD
import Derived.StillTailTactics
import Derived.ProofKit
import Derived.Lib.SmallJoins
import Derived.Deep.Slices
import Derived.Deep.Strs
import Derived.SizedLaws
import Derived.BigQuiet
set_option linter.unusedVariables false
set_option linter.unusedSimpArgs false
namespace Go.Proofs.YtklgoajgchfmeaaDoor
open Go.RowKit
theorem Tryd.infoU8 : (Tryd.prog.info? 5).map (fun i => (i.zero, i.size, i.bytes)) = some (some (.int .u8 0), 1, 1) := by kernel_rfl
def OwnB (w : World) (base : Nat) (v : Value) (l : List Int) : Prop := w.ownsRow base 5 1 v l.length (l.map (Value.int .u8))
theorem OwnB.nil (w : World) (base : Nat) : OwnB w base (.slice none 0 0) [] := World.ownsRow_nil _ _ _ _
theorem OwnB.later {w w' : World} {base : Nat} {v : Value} {l : List Int} (h : OwnB w base v l) (hb : Below w.heap.size w w') : OwnB w' base v l := by
  obtain ⟨h1, h2⟩ := h
  refine ⟨h1, ?_⟩
  rcases h2 with h2 | ⟨g, cap, cur, hv, hg, hh, r⟩
  · exact .inl h2
  · have hlt : g < w.heap.size := by
      rcases Nat.lt_or_ge g w.heap.size with h | h
      · exact h
      · rw [Array.getElem?_eq_none h] at hh; cases hh
    exact .inr ⟨g, cap, cur, hv, hg, by rw [hb.block g hlt]; exact hh, r⟩
theorem OwnB.slice {w : World} {base : Nat} {v : Value} {l : List Int} (h : OwnB w base v l) : ∃ p n c, v = .slice p n c := by
  rcases h.2 with ⟨rfl, _⟩ | ⟨g, cap, cur, rfl, _⟩
  · exact ⟨_, _, _, rfl⟩
  · exact ⟨_, _, _, rfl⟩
theorem wp_append_byte2 {w : World} {ops : Array Oper} {rest : List Oper} {o : Oper} {a : Act} {Q : Exit → Act → World → Prop} (hgd : o.guard = none) (s x : Operand)
    (ho : o.op = .call { callee := .builtin .append, args := #[s, x], argTypes := #[62, 62] }) (base : Nat) (v : Value) (l : List Int) (hs : a.eval s = v) (hown : OwnB w base v l)
    (y : Int) (g c : Nat) (hx : a.eval x = .slice (some ⟨g, 0, none⟩) 1 c) (hc : w.cell? ⟨g, 0, none⟩ = some (.int .u8 y)) (hlen : l.length < 1099511627776) (hbase : base ≤ w.heap.size)
    (h : ∀ v' w', OwnB w' base v' (l ++ [y]) → w.grownBy w' v.ownBlock → Below base w w' → wpList Tryd.prog ops Q rest (a.put o.dst v') w') : wpList Tryd.prog ops Q (o :: rest) a w := by
  obtain ⟨i0, hi, hz0, hz1, hz2⟩ := info_parts Tryd.infoU8
  refine wpList_append_own w hgd s x 62 ho base 5 i0 (.int .u8 0) 1 1 Tryd.underlying62 hi hz0 hz1 hz2 rfl (by decide) v l.length _ hs hown ⟨g, 0, none⟩ 1 c [.int .u8 y] hx rfl ?_ ?_ ?_ ?_ hbase ?_
  · intro j u hj
    match j, hj with
    | 0, hj => simp at hj; subst hj; simpa [Addr.add] using hc
  · intro u hu
    simp at hu
    subst hu
    rfl
  · unfold maxLen; omega
  · omega
  · intro v' w' h1 h2 _
    refine h v' w' ?_ h2 ((Below.refl _ _).grown h2 hbase fun k hk => (hown.lt _ hk).1)
    unfold OwnB
    rw [List.length_append, List.map_append]
    exact h1
open Go.RowKit
set_option maxRecDepth 100000
abbrev toJ (l : Bs) : List Int := l.map fun b => (b.toNat : Int)
theorem toJ_app (a b : Bs) : toJ (a ++ b) = toJ a ++ toJ b := List.map_append
theorem toJ_push (l : Bs) : ∀ acc : ByteArray, (toJ l).foldl (fun (r : ByteArray) (n : Int) => r.push (UInt8.ofNat n.toNat)) acc = ⟨acc.data ++ l.toArray⟩ := by
  induction l with
  | nil => intro acc; simp [toJ]
  | cons b l ih =>
    intro acc
    have := ih (acc.push b)
    unfold toJ at this ⊢
    simp only [List.map_cons, List.foldl_cons, Int.toNat_natCast, UInt8.ofNat_toNat]
    rw [this]
    simp [ByteArray.push]
theorem conv_own {w : World} {base : Nat} {v : Value} {l : Bs} (h : OwnB w base v (toJ l)) : (convert 62 9 v).run Tryd.prog w = .ok (.string (bsB l)) w := by
  have h' := h
  obtain ⟨h1, h2⟩ := h'
  rcases h2 with ⟨rfl, h0⟩ | ⟨g, cap, cur, rfl, hb, hg, hn, hm, hc, ht⟩
  · have : l = [] := by rw [List.length_map] at h0; exact List.eq_nil_of_length_eq_zero h0
    subst this
    rw [run_convert_bytes_string w 62 9 5 none 0 0 Tryd.underlying62 Tryd.underlying5 Tryd.underlying9]
    rfl
  · rw [run_convert_bytes_string w 62 9 5 _ _ _ Tryd.underlying62 Tryd.underlying5 Tryd.underlying9]
    have hl : (loadCells ⟨g, 0, none⟩ (toJ l).length).run Tryd.prog w = .ok ((toJ l).map (Value.int .u8)).toArray w := by
      have := run_loadCells_list (P := Tryd.prog) w ⟨g, 0, none⟩ ((toJ l).map (Value.int .u8)) (fun j u hu => World.ownsRow.cells h (g := g) rfl j u hu)
      rwa [List.length_map] at this
    rw [run_bytesToString w _ _ cap (toJ l) hl, toJ_push]
    simp
open Go.RowKit
set_option maxRecDepth 100000
theorem bits_or_nat {a b : Nat} (ha : a < 65536) (hb : b < 65536) : bits .or .i64 (a : Int) (b : Int) = ((a ||| b : Nat) : Int) := by
  have h : a ||| b < 2 ^ 16 := Nat.or_lt_two_pow (by omega) (by omega)
  change IntKind.wrap .i64 ((BitVec.ofInt 64 (a : Int) ||| BitVec.ofInt 64 (b : Int)).toNat : Int) = _
  rw [BitVec.ofInt_natCast, BitVec.ofInt_natCast, BitVec.toNat_or, BitVec.toNat_ofNat, BitVec.toNat_ofNat, Nat.mod_eq_of_lt (by omega), Nat.mod_eq_of_lt (by omega)]
  rw [IntKind.wrap_i64]
  try unfold wrap64
  omega
theorem rel_ok {op : Int} {v : Val} {rel col n : Int} {s : ByteArray} {len : Nat} (h : headOk op v rel col n s len = true) (h2 : op = 2) : 0 ≤ rel ∧ rel ≤ 15 := by
  obtain ⟨_, _, _, h⟩ := head_parts h
  rcases h with ⟨h1, _⟩ | ⟨_, ⟨_, h1⟩ | ⟨h1, _⟩ | h1⟩
  · omega
  · exact ⟨h1.1, h1.2.1⟩
  · omega
  · omega
mutual
theorem tabs_lt : ∀ (x : Ex), x.okAll = true → x.tabs < 65536
  | .mk op v rel col n s l, h => by
    rw [Ex.okAll, Bool.and_eq_true] at h
    have h1 := tabsL_lt l h.2
    rw [Ex.tabs]
    have h2 : (if op = 2 then 2 ^ rel.toNat else 0) < 2 ^ 16 := by
      split
      · rename_i e
        have := rel_ok h.1 e
        exact Nat.pow_lt_pow_right (by omega) (by omega)
      · omega
    exact Nat.or_lt_two_pow (n := 16) h2 h1
theorem tabsL_lt : ∀ (l : List Ex), okL l = true → tabsL l < 65536
  | [], _ => by rw [tabsL]; omega
  | x :: r, h => by
    rw [okL, Bool.and_eq_true] at h
    rw [tabsL]
    exact Nat.or_lt_two_pow (n := 16) (tabs_lt x h.1) (tabsL_lt r h.2)
end
theorem pow_in {rel : Int} (h : rel ≤ 15) : wrap64 (2 ^ rel.toNat) = 2 ^ rel.toNat := by
  have h2 : 2 ^ rel.toNat < 2 ^ 16 := Nat.pow_lt_pow_right (by omega) (by omega)
  have e : (2 : Int) ^ rel.toNat = ((2 ^ rel.toNat : Nat) : Int) := by simp
  rw [e]
  generalize 2 ^ rel.toNat = m at h2 ⊢
  clear e
  unfold wrap64
  omega
def tablesE (x : Ex) : Nat := bif rightE x then x.tabs else 0
open Go.ChangeShapes Go.WideShapes Go.ChangeAt Go.RowKit Go.Joins
set_option maxRecDepth 100000
theorem Tryd.own : ownKnob Tryd.prog.godebug = none := by kernel_rfl
theorem Tryd.laidOut : laidOutB Tryd.prog = true := by kernel_rfl
section
variable {H : Type} {enc : TypeId × Value → H}
theorem all_stay {W W' : World} (hb : Below W.heap.size W W') : ∀ {ts : List TypeId} {vs : List Value} {ds : List (DataW H)} {ps : List MemPlace},
    (∀ t ∈ ts, Tryd.prog.readableRec t = true ∧ t < Tryd.prog.types.size) → DataW.TrodAll enc Tryd.prog W 0 (fun _ => true) true ts vs ds ps → (∀ x ∈ ps, x.block < W.heap.size) →
    DataW.TrodAll enc Tryd.prog W' 0 (fun b => decide (b < W.heap.size)) true ts vs ds ps
  | [], [], [], _, _, h, _ => h
  | t :: ts, v :: vs, d :: ds, ps, hr, h, hlt => by
    obtain ⟨p, q, h1, h2, rfl⟩ := h
    have hp : ∀ x ∈ p, x.block < W.heap.size := fun x hx => hlt x (List.mem_append_left _ hx)
    have hq : ∀ x ∈ q, x.block < W.heap.size := fun x hx => hlt x (List.mem_append_right _ hx)
    exact ⟨p, q, Below.trod Tryd.laidOut (hr t List.mem_cons_self).1 (hr t List.mem_cons_self).2 h1 hb hp, all_stay hb (fun t' ht' => hr t' (List.mem_cons_of_mem _ ht')) h2 hq, rfl⟩
  | [], [], _ :: _, _, _, h, _ => h.elim
  | [], _ :: _, _, _, _, h, _ => h.elim
  | _ :: _, [], _, _, _, h, _ => h.elim
  | _ :: _, _ :: _, [], _, _, h, _ => h.elim
theorem post_law {f : Func} {s : ChangeSpec} {W W' : World} {args : Array Value} {ds gs : List (DataW H)} {before : List MemPlace} (hv : s.vars = [])
    (hW : DataW.Whole enc Tryd.prog f.params.toList s.vars false W args.toList ds gs before) (hfn : s.fn H ds = { results := [.lit (.bool true)], args := ds }) (hres : f.resultTypes = #[4])
    (hread : ∀ t ∈ f.params.toList, Tryd.prog.readableRec t = true ∧ t < Tryd.prog.types.size) (hb : Below W.heap.size W W') : s.post enc Tryd.prog f false true false false W args (.bool true) W' := by
  have hW' := hW
  obtain ⟨p, q, hA, hV, rfl, _, _⟩ := hW
  rw [hv] at hV
  obtain ⟨rfl, rfl⟩ := trodVars_none hV
  have hlt : ∀ x ∈ p, x.block < W.heap.size := fun x hx => hW'.lt x (List.mem_append_left _ hx)
  refine ⟨ds, [], p ++ [], [], p, [], hW', ?_, ?_, ?_, hb.frame _, fun h => by cases h⟩
  · rw [List.append_nil, hfn, hres]
    exact trodAll_mk1 (shut_bool Tryd.underlying4 true)
  · rw [List.append_nil, hfn]
    exact all_stay hb hread hA hlt
  · rw [List.append_nil, hfn, hv]
    exact rfl
theorem Tryd.cellsVal : Tryd.prog.cellsOf 23 = 3 := by kernel_rfl
end
open Go.ChangeShapes Go.WideShapes Go.ChangeAt Go.RowKit Go.Joins Go.Deep
set_option maxRecDepth 100000
instance : Inhabited Val := ⟨nul⟩
section
variable {H : Type} {enc : TypeId × Value → H}
theorem cells_val {W : World} {base n : Nat} {spare : Nat → Bool} {held : Bool} {cs : List Value} {y : DataW H × List MemPlace} (h : DataW.trod enc Tryd.prog W base spare held n 23 cs = some y) :
    ∃ x : Val, cs = [.int .i64 x.k, .int .i64 x.n, .string x.s] ∧ inR x.k = true ∧ inR x.n = true ∧ x.s.size ≤ maxLen := by
  obtain ⟨y0, y1, y2, m, _, hl, h0, h1, h2⟩ := trod_struct3 Tryd.underlying23 h
  rw [Tryd.cellsVal] at hl
  match cs, hl with
  | [v0, v1, v2], _ =>
    obtain ⟨a, e0, _, wa⟩ := DataW.trod_int Tryd.underlying3 h0
    obtain ⟨b, e1, _, wb⟩ := DataW.trod_int Tryd.underlying3 h1
    obtain ⟨s, e2, _, hs⟩ := DataW.trod_string Tryd.underlying9 h2
    have k3 : Tryd.prog.cellsOf 3 = 1 := by kernel_rfl
    have k9 : Tryd.prog.cellsOf 9 = 1 := by kernel_rfl
    simp [k3, k9] at e0 e1 e2
    subst e0 e1 e2
    refine ⟨⟨a, b, s⟩, rfl, ?_, ?_, hs⟩
    · simpa [inR, Lit.wf, IntKind.min, IntKind.signed, IntKind.bits] using wa
    · simpa [inR, Lit.wf, IntKind.min, IntKind.signed, IntKind.bits] using wb
end
open Go.ChangeShapes Go.WideShapes Go.ChangeAt Go.RowKit Go.Joins Go.Deep
set_option maxRecDepth 100000
theorem weights_mem {H : Type} {P : Program} {e : TypeId} {l : List (DataW H)} {d : DataW H} (hd : d ∈ l) {n : Nat} (hn : n ∈ d.weights P e) : n ∈ DataW.weightsAll P e l := by
  induction l with
  | nil => cases hd
  | cons a l ih =>
    simp only [DataW.weightsAll, List.mem_append]
    rcases List.mem_cons.1 hd with rfl | h
    · exact .inl hn
    · exact .inr (ih h)
theorem addr_off (b off n : Nat) : (⟨b, off, none⟩ : Addr).add n = ⟨b, off + n, none⟩ := by
  unfold Addr.add
  split
  · rename_i h; subst h; rfl
  · rfl
theorem addr_here {W : World} {a : Addr} {v : Value} (h : W.cell? a = some v) : a = ⟨a.block, a.off, none⟩ ∧ a.block < W.heap.size := by
  refine ⟨?_, World.block_lt_of_cell? W a (by rw [h])⟩
  obtain ⟨b, o, s⟩ := a
  cases s with
  | none => rfl
  | some k =>
    simp only [World.cell?] at h
    split at h <;> simp at h
section
variable {H : Type} {enc : TypeId × Value → H}
theorem open_arr {α : Type} [Inhabited α] {t e : TypeId} {sz : Nat} (ht : Tryd.prog.underlying t = some (.slice e)) (hsz : Tryd.prog.cellsOf e = sz) (h0 : 0 < sz) {W : World} {base fuel : Nat} {spare : Nat → Bool} {held : Bool} {cs : List Value} {y : DataW H × List MemPlace}
    (P : Nat → Nat → α → Prop) (Q : α → Prop) (hf : DataW.trod enc Tryd.prog W base spare held fuel t cs = some y) (hz : ∀ n ∈ y.1.weights Tryd.prog t, n ≤ reachBytes)
    (hel : ∀ (cs : List Value) (y : DataW H × List MemPlace) (n : Nat), DataW.trod enc Tryd.prog W base spare held n e cs = some y → (∀ n ∈ y.1.weights Tryd.prog e, n ≤ reachBytes) → ∀ g o, (∀ (k : Nat) v, k < sz → cs[k]? = some v → W.cell? ⟨g, o + k, none⟩ = some v) → ∃ x, P g o x ∧ Q x) :
    ∃ (q : Option Addr) (l : List α) (c : Nat), cs = [.slice q l.length c] ∧ l.length ≤ c ∧ c ≤ 9223372036854775807 ∧ l.length * Tryd.prog.bytesOf e ≤ reachBytes ∧ ArrA 0 W.heap.size q sz l P ∧ ∀ x ∈ l, Q x := by
  rcases open_slice ht hf with ⟨hc, _⟩ | ⟨a, len, cap, m, n, D, Pl, hc, hb, hl, hm, hmm, hx, hi⟩
  · exact ⟨none, [], 0, hc, Nat.le_refl _, by omega, by simp, fun i hi => absurd hi (by simp), fun x hx => absurd hx (by simp)⟩
  · have hlm : len ≤ m := by rw [hmm]; split <;> omega
    rw [hsz] at hi
    subst hx
    have hcell : ∀ i, i < len → ∃ cs', (∀ k, k < sz → W.cell? (a.add (i * sz + k)) = cs'[k]?) ∧ cs'.length = sz ∧ DataW.trod enc Tryd.prog W base spare held n e cs' = some (D i, Pl i) := by
      intro i hil
      obtain ⟨cs', hcs, htr⟩ := hi i (by omega)
      obtain ⟨_, hlen, hat⟩ := World.cells?_some hcs
      exact ⟨cs', fun k hk => by have h1 := hat k hk; rw [add_add] at h1; exact h1, hlen, htr⟩
    have haddr : 0 < len → a = ⟨a.block, a.off, none⟩ ∧ a.block < W.heap.size := by
      intro hl0
      obtain ⟨cs', hk, hlen, _⟩ := hcell 0 hl0
      have h1 := hk 0 h0
      rw [Nat.zero_mul, Nat.zero_add, Addr.add, if_pos rfl, List.getElem?_eq_getElem (by omega)] at h1
      exact addr_here h1
    have each : ∀ i, i < len → ∃ x : α, P a.block (a.off + i * sz) x ∧ Q x := by
      intro i hil
      obtain ⟨cs', hk, hlen, htr⟩ := hcell i hil
      refine hel cs' _ n htr (fun w hw => hz w ?_) _ _ (fun k v hks hv => ?_)
      · simp only [DataW.weights, ht]
        exact List.mem_cons_of_mem _ (List.mem_append.2 (.inl (weights_mem (d := D i) (List.mem_map.2 ⟨i, List.mem_range.2 hil, rfl⟩) hw)))
      · have h1 := hk k hks
        rw [(haddr (by omega)).1, addr_off, hv] at h1
        rw [Nat.add_assoc]
        exact h1
    obtain ⟨T, hT⟩ := choose_lt each
    have hlen : ((List.range len).map T).length = len := by simp
    refine ⟨some a, (List.range len).map T, cap, by rw [hlen]; exact hc, by rw [hlen]; exact hl, by unfold maxLen at hm; omega, ?_, fun i hi => ?_, fun x hx => ?_⟩
    · rw [hlen]
      have h1 := hz ((((List.range len).map D).length + ((List.range (m - len)).map fun j => D (len + j)).length) * Tryd.prog.bytesOf e) (by simp [DataW.weights, ht])
      simp at h1
      exact Nat.le_trans (Nat.mul_le_mul_right _ (by omega)) h1
    · rw [hlen] at hi
      obtain ⟨ha, hlt⟩ := haddr (by omega)
      refine ⟨a.block, a.off, by rw [← ha], Nat.zero_le _, hlt, fun j x hx => ?_⟩
      have hj : j < len := by
        rcases Nat.lt_or_ge j len with h | h
        · exact h
        · rw [List.getElem?_eq_none (by rw [hlen]; exact h)] at hx; cases hx
      have : T j = x := by simpa [hj] using hx
      rw [← this]
      exact (hT j hj).1
    · obtain ⟨j, hj, rfl⟩ := List.mem_map.1 hx
      exact (hT j (List.mem_range.1 hj)).2
instance : Inhabited ByteArray := ⟨⟨#[]⟩⟩
instance : Inhabited Col := ⟨⟨⟨#[]⟩, 0⟩⟩
instance : Inhabited Tab := ⟨⟨⟨#[]⟩, [], []⟩⟩
theorem Tryd.cellsStr : Tryd.prog.cellsOf 9 = 1 := by kernel_rfl
theorem Tryd.cellsInt : Tryd.prog.cellsOf 3 = 1 := by kernel_rfl
end
open Go.RowKit
set_option maxRecDepth 100000
theorem dcol_ok {op : Int} {v : Val} {rel col n : Int} {s : ByteArray} {len : Nat} (h : headOk op v rel col n s len = true) (h2 : op = 2) : 0 ≤ col ∧ col ≤ 5 := by
  obtain ⟨_, _, _, h⟩ := head_parts h
  rcases h with ⟨h1, _⟩ | ⟨_, ⟨_, h1⟩ | ⟨h1, _⟩ | h1⟩
  · omega
  · exact ⟨h1.2.2.1, h1.2.2.2.1⟩
  · omega
  · omega
theorem n_ok {op : Int} {v : Val} {rel col n : Int} {s : ByteArray} {len : Nat} (h : headOk op v rel col n s len = true) (h3 : op = 3) : 1 ≤ n ∧ n ≤ 4 := by
  obtain ⟨_, _, _, h⟩ := head_parts h
  rcases h with ⟨h1, _⟩ | ⟨_, ⟨h1, _⟩ | ⟨_, h1⟩ | h1⟩
  · omega
  · omega
  · exact ⟨h1.2.2.1, h1.2.2.2⟩
  · omega
end Go.Proofs.YtklgoajgchfmeaaDoor
