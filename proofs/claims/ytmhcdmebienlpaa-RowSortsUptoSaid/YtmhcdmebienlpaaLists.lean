/- Lists of rows in memory; the law package's 'rows': are two lists of rows the same? -/
import Derived.Test.YtmhcdmebienlpaaValD
import Derived.Test.YtmhcdmebienlpaaRowMem
namespace Go.Proofs.Ytmhcdmebienlpaa
open Go.RowKit

/-- A list of n rows behind the address p: row i is the slice ⟨q i, l i, c i⟩ and holds the values x i. -/
structure ListP (W : World) (p : Option Addr) (n : Nat) (q : Nat → Option Addr) (l c : Nat → Nat) (x : Nat → Nat → Val) : Prop where
  one : ∀ k, k < n → ∃ b off, p = some ⟨b, off, none⟩ ∧ b < W.heap.size ∧ ∀ i, i < n → W.cell? ⟨b, off + i, none⟩ = some (.slice (q i) (l i) (c i))
  row : ∀ i, i < n → RowP W (q i) (l i) (x i)
  len : ∀ i, i < n → l i ≤ 9223372036854775807

theorem ListP.ext {W W' : World} {p : Option Addr} {n : Nat} {q : Nat → Option Addr} {l c : Nat → Nat} {x : Nat → Nat → Val} (h : ListP W p n q l c x) (hb : Below W.heap.size W W') : ListP W' p n q l c x := by
  refine ⟨fun k hk => ?_, fun i hi => (h.row i hi).ext hb, h.len⟩
  obtain ⟨b, off, h1, h2, h3⟩ := h.one k hk
  exact ⟨b, off, h1, Nat.lt_of_lt_of_le h2 hb.size, fun i hi => (hb.cell (p := ⟨b, _, none⟩) h2).trans (h3 i hi)⟩

/-- The same n rows? -/
def sameRow (x y : Nat → Val) : Nat → Bool
  | 0 => true
  | n + 1 => sameRow x y n && ((x n).k == (y n).k && (x n).n == (y n).n && (x n).s.toList == (y n).s.toList)
def sameRows (l l' : Nat → Nat) (x y : Nat → Nat → Val) : Nat → Bool
  | 0 => true
  | n + 1 => sameRows l l' x y n && (l n == l' n && sameRow (x n) (y n) (l n))
theorem sameRow_no {x y : Nat → Val} {n k : Nat} (hk : k < n) (h : ((x k).k == (y k).k && (x k).n == (y k).n && (x k).s.toList == (y k).s.toList) = false) : sameRow x y n = false := by
  induction n with
  | zero => omega
  | succ n ih =>
    unfold sameRow
    by_cases e : k = n
    · subst e; rw [h, Bool.and_false]
    · rw [ih (by omega)]; rfl
theorem sameRows_no {l l' : Nat → Nat} {x y : Nat → Nat → Val} {n k : Nat} (hk : k < n) (h : (l k == l' k && sameRow (x k) (y k) (l k)) = false) : sameRows l l' x y n = false := by
  induction n with
  | zero => omega
  | succ n ih =>
    unfold sameRows
    by_cases e : k = n
    · subst e; rw [h, Bool.and_false]
    · rw [ih (by omega)]; rfl

theorem Try.neqVal (a b : Val) (w : World) : (binOp .neq 36 (.agg #[.int .i64 a.k, .int .i64 a.n, .string a.s]) (.agg #[.int .i64 b.k, .int .i64 b.n, .string b.s])).run Try.prog w = .ok (.bool (!(a.k == b.k && a.n == b.n && a.s.toList == b.s.toList))) w := by
  have hS : Try.prog.underlying 36 = some (.struct (Try.prog.fieldsOf 36)) := by kernel_rfl
  have hp : Try.prog.stoodInHeld 36 = false := by kernel_rfl
  rw [run_neq_struct, show (10000 : Nat) = 9999 + 1 from rfl, run_equalIn_agg w 9999 36 _ _ hS hp]
  simp only [Program.fieldsOf, Try.underlying36]
  go_simp
  by_cases h1 : a.k = b.k <;> by_cases h2 : a.n = b.n <;> by_cases h3 : a.s.toList = b.s.toList <;> simp [h1, h2, h3]
theorem Try.neqGuard : Try.prog.eqGuardType Try.prog.depth 36 = false := by kernel_rfl

set_option maxHeartbeats 2000000 in
theorem rows_any (p p' : Option Addr) (n cap n' cap' : Nat) (q q' : Nat → Option Addr) (l c l' c' : Nat → Nat) (x y : Nat → Nat → Val) (w : World) (hn : n ≤ 9223372036854775807) (hn' : n' ≤ 9223372036854775807)
    (hL : ListP w p n q l c x) (hL' : ListP w p' n' q' l' c' y) :
    Calls Try.prog 15 #[.slice p n cap, .slice p' n' cap'] w fun e w' => e = .returned (.bool (n == n' && sameRows l l' x y n)) ∧ Below w.heap.size w w' := by
  by_cases hnn : n = n'
  · subst hnn
    go_enter Try.func15, Try.ntmps15
    go_wp2
    go_loopw [5] (fun i wr => ∃ k : Nat, k ≤ n ∧ i = .int .i64 k ∧ Hid (sameRows l l' x y k = true) ∧ ∃ d, wr = w.drewN d) (fun i _ => n - (intOf i).toNat)
    case atStart => exact ⟨0, Nat.zero_le _, rfl, rfl, 0, rfl⟩
    case round =>
      obtain ⟨k, hk, rfl, HS, d, rfl⟩ := hrel
      by_cases hlt : k < n
      · obtain ⟨b, off, rfl, hb, hc⟩ := hL.one k hlt
        obtain ⟨b', off', rfl, hb', hc'⟩ := hL'.one k hlt
        have r0 := hc k hlt
        have r1 := hc' k hlt
        have hlk := hL.len k hlt
        have hlk' := hL'.len k hlt
        have R := hL.row k hlt
        have R' := hL'.row k hlt
        clear hc hc' hL hL'
        cases hll : l k == l' k
        · have hll' : l k ≠ l' k := by simpa using hll
          go_wp2_with fail
          go_quiet (fail)
          have hne : (((l k : Nat) : Int) != ((l' k : Nat) : Int)) = true := by rw [bne_iff_ne]; omega
          rw [hne]
          go_wp2
          go_ret
          exact ⟨by rw [sameRows_no hlt (by rw [hll]; rfl), Bool.and_false]; rfl, ext_drewN (ext_drewN (ext_refl _) _) _⟩
        · have hll' : l k = l' k := by simpa using hll
          have hne : (((l k : Nat) : Int) != ((l' k : Nat) : Int)) = false := by simp [hll']
          have HLL := Lib.hid hll'
          clear hll' hll
          go_wp2_with fail
          go_quiet (fail)
          go_wp2
          go_loopw [6] (fun i wr => ∃ m : Nat, m ≤ l k ∧ i = .int .i64 m ∧ Hid (sameRow (x k) (y k) m = true) ∧ ∃ d, wr = w.drewN d) (fun i _ => l k - (intOf i).toNat)
          case atStart => exact ⟨0, Nat.zero_le _, rfl, rfl, d + nq, by simp⟩
          case round =>
            obtain ⟨m, hm, rfl, HT, d2, rfl⟩ := hrel
            by_cases hmt : m < l k
            · obtain ⟨B, O, hq, RA⟩ := R.one hmt
              obtain ⟨B', O', hq', RA'⟩ := R'.one (show m < l' k by have := HLL.out; omega)
              have q0 := RA.c0 m hmt
              have q1 := RA.c1 m hmt
              have q2 := RA.c2 m hmt
              have hmt' : m < l' k := by have := HLL.out; omega
              have p0 := RA'.c0 m hmt'
              have p1 := RA'.c1 m hmt'
              have p2 := RA'.c2 m hmt'
              rw [hq] at r0
              rw [hq'] at r1
              have N := Try.neqVal (x k m) (y k m)
              have G := Try.neqGuard
              cases hv : ((x k m).k == (y k m).k && (x k m).n == (y k m).n && (x k m).s.toList == (y k m).s.toList)
              all_goals simp only [hv, Bool.not_false, Bool.not_true] at N
              all_goals have HV := Lib.hid hv
              all_goals clear hv
              · go_wp2_with fail
                go_quiet (fail)
                go_wp2
                go_ret
                exact ⟨by rw [sameRows_no hlt (by rw [HLL.out, sameRow_no hmt' HV.out, Bool.and_false]), Bool.and_false]; rfl, ext_drewN (ext_drewN (ext_refl _) _) _⟩
              · go_wp2_with fail
                go_quiet (fail)
                go_wp2
                go_roundw
                case rel => exact ⟨m + 1, by omega, by go_num, (by show _ = _; rw [sameRow, HT.out, HV.out]; rfl), d2 + nq, by simp⟩
                case measure => simp [intOf]; omega
            · have hml : m = l k := by omega
              subst hml
              go_wp2
              go_roundw
              case rel => exact ⟨k + 1, by omega, by go_num, (by show _ = _; rw [sameRows, HS.out, HT.out]; simp [HLL.out]), d2, rfl⟩
              case measure => simp [intOf]; omega
      · have hkl : k = n := by omega
        subst hkl
        go_wp2
        go_ret
        exact ⟨by simp [HS.out], ext_drewN (ext_refl _) _⟩
  · go_enter Try.func15, Try.ntmps15
    go_wp2
    go_ret
    exact ⟨by simp [hnn], ext_refl _⟩

end Go.Proofs.Ytmhcdmebienlpaa
