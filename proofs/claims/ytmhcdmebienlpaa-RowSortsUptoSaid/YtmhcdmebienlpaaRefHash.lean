/- The reference's Hash. -/
import Derived.Test.YtmhcdmebienlpaaRowHash
import Derived.Test.YtmhcdmebienlpaaBytes
import Derived.Test.YtmhcdmebienlpaaVals
import Derived.BigRegion
namespace Go.Proofs.Ytmhcdmebienlpaa
open Go.RowKit

theorem Try.infoU64 : (Try.prog.info? 40).map (fun i => (i.zero, i.size, i.bytes)) = some (some (.int .u64 0), 1, 8) := by kernel_rfl

/-- The slice v holds the numbers l, in a block of the call's own. -/
def OwnU (w : World) (base : Nat) (v : Value) (l : List Int) : Prop := w.ownsRow base 40 1 v l.length (l.map (Value.int .u64))
theorem OwnU.later {w w' : World} {base : Nat} {v : Value} {l : List Int} (h : OwnU w base v l) (hb : Below w.heap.size w w') : OwnU w' base v l := by
  obtain ⟨h1, h2⟩ := h
  refine ⟨h1, ?_⟩
  rcases h2 with h2 | ⟨g, cap, cur, hv, hg, hh, r⟩
  · exact .inl h2
  · have hlt : g < w.heap.size := by
      rcases Nat.lt_or_ge g w.heap.size with h | h
      · exact h
      · rw [Array.getElem?_eq_none h] at hh; cases hh
    exact .inr ⟨g, cap, cur, hv, hg, by rw [hb.block g hlt]; exact hh, r⟩
theorem wp_append_u64 {w : World} {ops : Array Oper} {rest : List Oper} {o : Oper} {a : Act} {Q : Exit → Act → World → Prop} (hgd : o.guard = none) (s x : Operand)
    (ho : o.op = .call { callee := .builtin .append, args := #[s, x], argTypes := #[64, 64] }) (base : Nat) (v : Value) (l : List Int) (hs : a.eval s = v) (hown : OwnU w base v l)
    (y : Int) (g c : Nat) (hx : a.eval x = .slice (some ⟨g, 0, none⟩) 1 c) (hc : w.cell? ⟨g, 0, none⟩ = some (.int .u64 y)) (hlen : l.length < 1099511627776) (hbase : base ≤ w.heap.size)
    (h : ∀ v' w', OwnU w' base v' (l ++ [y]) → Below base w w' → wpList Try.prog ops Q rest (a.put o.dst v') w') : wpList Try.prog ops Q (o :: rest) a w := by
  obtain ⟨i0, hi, hz0, hz1, hz2⟩ := info_parts Try.infoU64
  refine wpList_append_own w hgd s x 64 ho base 40 i0 (.int .u64 0) 1 8 Try.underlying64 hi hz0 hz1 hz2 rfl (by decide) v l.length _ hs hown ⟨g, 0, none⟩ 1 c [.int .u64 y] hx rfl ?_ ?_ ?_ ?_ hbase ?_
  · intro j u hj
    match j, hj with
    | 0, hj => simp at hj; subst hj; simpa [Addr.add] using hc
  · intro u hu
    simp at hu
    subst hu
    rfl
  · unfold maxLen; omega
  · omega
  · intro v' w' h1 h2 _
    refine h v' w' ?_ ((Below.refl _ _).grown h2 hbase fun k hk => (hown.lt _ hk).1)
    unfold OwnU
    rw [List.length_append, List.map_append]
    exact h1
theorem OwnU.cells {w : World} {base : Nat} {v : Value} {l : List Int} (h : OwnU w base v l) (hn : 0 < l.length) : ∃ g cap, v = .slice (some ⟨g, 0, none⟩) l.length cap ∧ base ≤ g ∧ ∀ i, i < l.length → w.cell? ⟨g, i, none⟩ = some (.int .u64 (l[i]?.getD 0)) := by
  obtain ⟨h1, h2⟩ := h
  rcases h2 with ⟨rfl, h0⟩ | ⟨g, cap, cur, rfl, hb, hg, hn', hm, hc, ht⟩
  · omega
  · refine ⟨g, cap, rfl, hb, fun i hi => ?_⟩
    rw [Lib.cell_of_heap hg]
    have := congrArg (fun l => l[i]?) ht
    simp [hi] at this
    simpa [hi] using this

/-- One number (as its 64 bits) into a hash. -/
def mixU (h n : Int) : Int := IntKind.u64.wrap (bits BinOp.xor IntKind.u64 h n * 1099511628211)
/-- The numbers of a value, of its text the first m bytes. -/
def nums (x : Val) (m : Nat) : List Int := [IntKind.u64.wrap x.k, IntKind.u64.wrap x.n, IntKind.u64.wrap (x.s.size : Int)] ++ (List.range m).map fun j => IntKind.u64.wrap (((x.s.data[j]?.getD 0).toNat : Nat) : Int)
theorem nums_len (x : Val) (m : Nat) : (nums x m).length = m + 3 := by simp [nums]
theorem nums_hash (h : Int) (x : Val) (m : Nat) : (nums x m).foldl mixU h = hashS (mixH (mixH (mixH h x.k) x.n) x.s.size) x.s m := by
  induction m with
  | zero => rfl
  | succ m ih =>
    unfold nums at *
    rw [List.range_succ, List.map_append, ← List.append_assoc, List.foldl_append, ih]
    rfl

set_option maxRecDepth 100000 in
set_option maxHeartbeats 4000000 in
theorem rhash_any (p : Option Addr) (len cap : Nat) (x : Nat → Val) (w : World) (hl : len ≤ 9223372036854775807) (hR : RowP w p len x) (hs : ∀ i, i < len → (x i).s.size ≤ 1073741824) :
    Calls Try.prog 21 #[.slice p len cap] w fun e w' => e = .returned (.int .u64 (hashTo x len)) ∧ Below w.heap.size w w' := by
  go_enter Try.func21, Try.ntmps21
  go_wp2
  go_loopw [3, 4] (fun h i wr => ∃ k : Nat, k ≤ len ∧ i = .int .i64 k ∧ h = .int .u64 (hashTo x k) ∧ Below w.heap.size w wr) (fun _ i _ => len - (intOf i).toNat)
  case atStart => exact ⟨0, Nat.zero_le _, rfl, rfl, ext_refl _⟩
  case round =>
    obtain ⟨k, hk, rfl, rfl, hE⟩ := hrel
    obtain ⟨Z, hZ⟩ : ∃ Z, Z = wr := ⟨_, rfl⟩
    subst hZ
    by_cases hlt : k < len
    · obtain ⟨b, off, rfl, S⟩ := (hR.ext hE).one hlt
      have q0 := S.c0 k hlt
      have q1 := S.c1 k hlt
      have q2 := S.c2 k hlt
      have hsz := hs k hlt
      have hbl := S.lt (by omega)
      obtain ⟨v, hv⟩ : ∃ v, v = x k := ⟨_, rfl⟩
      have HV := Lib.hid hv
      rw [← hv] at q0 q1 q2 hsz
      clear hv
      go_wp2_with fail
      go_region
      have H0 := Lib.hid (show OwnU (Z.alloc (.cells #[.int .u64 (IntKind.u64.wrap v.k), .int .u64 (IntKind.u64.wrap v.n), .int .u64 (v.s.size : Int)] 40)).drew Z.heap.size (.slice (some ⟨Z.heap.size, 0, none⟩) 3 3) (nums v 0) from by
        have e : IntKind.u64.wrap (v.s.size : Int) = (v.s.size : Int) := by rw [IntKind.wrap_u64]; omega
        refine ⟨rfl, .inr ⟨Z.heap.size, 3, _, rfl, Nat.le_refl _, heap_alloc_new Z _, Nat.le_refl _, by unfold maxLen; omega, rfl, ?_⟩⟩
        simp [nums, e])
      have HB0 := Lib.hid (show Below Z.heap.size Z (Z.alloc (.cells #[.int .u64 (IntKind.u64.wrap v.k), .int .u64 (IntKind.u64.wrap v.n), .int .u64 (v.s.size : Int)] 40)).drew from ((Below.refl _ _).alloc (Nat.le_refl _) _).drew)
      generalize (Z.alloc (.cells #[.int .u64 (IntKind.u64.wrap v.k), .int .u64 (IntKind.u64.wrap v.n), .int .u64 (v.s.size : Int)] 40)).drew = W1 at *
      clear q0 q1 S
      have HQ2 := Lib.hid q2
      clear q2
      go_wp2
      go_loopw [5, 6] (fun l i wr => ∃ m : Nat, m ≤ v.s.size ∧ i = .int .i64 m ∧ Hid (OwnU wr Z.heap.size l (nums v m) ∧ Below Z.heap.size Z wr)) (fun _ i _ => v.s.size - (intOf i).toNat)
      case atStart => exact ⟨0, Nat.zero_le _, rfl, H0.out, HB0.out⟩
      case round =>
        obtain ⟨m, hm, rfl, HH⟩ := hrel
        have q2 := (HH.out.2.cell (p := ⟨b, _, none⟩) hbl).trans HQ2.out
        by_cases hmt : m < v.s.size
        · go_wp2_with (at_builtin; refine wp_append_u64 rfl _ _ rfl Z.heap.size _ _ rfl (HH.out.1.later ?k1) (IntKind.u64.wrap ((v.s[m]'hmt).toNat : Int)) _ _ rfl ?k2 ?k3 ?k4 ?_)
          case k1 => exact (Below.refl _ _).alloc (Nat.le_refl _) _
          case k2 => exact Lib.cell_of_heap (heap_alloc_new _ _) 0
          case k3 => rw [nums_len]; omega
          case k4 => have := HH.out.2.size; simp; omega
          intro v' w' HO' hb'
          go_wp2
          go_roundw
          case rel =>
            refine ⟨m + 1, by omega, by go_num, ?_, HH.out.2.trans (((Below.refl _ _).alloc HH.out.2.size _).trans hb')⟩
            have e : IntKind.u64.wrap (((v.s.data[m]?.getD 0).toNat : Nat) : Int) = IntKind.u64.wrap ((v.s[m]'hmt).toNat : Int) := by rw [Array.getElem?_eq_getElem hmt]; rfl
            have e2 : nums v (m + 1) = nums v m ++ [IntKind.u64.wrap ((v.s[m]'hmt).toNat : Int)] := by
              unfold nums
              rw [List.range_succ, List.map_append, ← List.append_assoc, ← e]
              rfl
            rw [e2]
            exact HO'
          case measure => simp [intOf]; omega
        · have hms : m = v.s.size := by omega
          subst hms
          obtain ⟨g, c, rfl, hg, hcell⟩ := HH.out.1.cells (by rw [nums_len]; omega)
          rw [nums_len] at hcell ⊢
          have HE := Lib.hid (show Below w.heap.size w wr from hE.trans (HH.out.2.mono hE.size))
          clear hE
          obtain ⟨Y, hY⟩ : ∃ Y, Y = wr := ⟨_, rfl⟩
          subst hY
          go_wp2
          go_loopw [3, 7] (fun h i wr => ∃ m : Nat, m ≤ v.s.size + 3 ∧ i = .int .i64 m ∧ h = .int .u64 (((nums v v.s.size).take m).foldl mixU (hashTo x k)) ∧ wr = Y) (fun _ i _ => v.s.size + 3 - (intOf i).toNat)
          case atStart => exact ⟨0, Nat.zero_le _, rfl, rfl, rfl⟩
          case round =>
            obtain ⟨m, hm, rfl, rfl, rfl⟩ := hrel
            by_cases hmt : m < v.s.size + 3
            · have c0 := hcell m hmt
              go_wp2_with fail
              go_roundw
              case rel =>
                refine ⟨m + 1, by omega, by go_num, ?_, trivial⟩
                rw [List.take_add_one, List.foldl_append]
                rw [List.getElem?_eq_getElem (show m < (nums v v.s.size).length by rw [nums_len]; exact hmt)]
                rfl
              case measure => simp [intOf]; omega
            · have hms : m = v.s.size + 3 := by omega
              subst hms
              go_wp2
              go_roundw
              case rel =>
                refine ⟨k + 1, by omega, by go_num, ?_, HE.out⟩
                rw [List.take_of_length_le (by rw [nums_len]; omega), nums_hash, hashTo, hashV, ← HV.out]
              case measure => simp [intOf]; omega
    · have hkl : k = len := by omega
      subst hkl
      go_wp2
      go_ret
      exact ⟨rfl, hE⟩

end Go.Proofs.Ytmhcdmebienlpaa
