/- The rows of the project: Hash. -/
import Derived.Test.YtmhcdmebienlpaaValD
import Derived.Test.YtmhcdmebienlpaaRowMem
namespace Go.Proofs.Ytmhcdmebienlpaa
open Go.RowKit

/-- One number into a hash. -/
def mixH (h n : Int) : Int := IntKind.u64.wrap (bits BinOp.xor IntKind.u64 h (IntKind.u64.wrap n) * 1099511628211)
/-- The first m bytes of a text into a hash. -/
def hashS (h : Int) (s : ByteArray) : Nat → Int
  | 0 => h
  | m + 1 => mixH (hashS h s m) ((s.data[m]?.getD 0).toNat : Int)
/-- A value into a hash. -/
def hashV (h : Int) (x : Val) : Int := hashS (mixH (mixH (mixH h x.k) x.n) x.s.size) x.s x.s.size
/-- The first n values of a row. -/
def hashTo (x : Nat → Val) : Nat → Int
  | 0 => 14695981039346656037
  | n + 1 => hashV (hashTo x n) (x n)

theorem byte_at (s : ByteArray) (m : Nat) (h : m < s.size) : wrap64 (s[m].toNat : Int) = ((s.data[m]?.getD 0).toNat : Int) := by
  have h' : m < s.data.size := h
  have e : s.data[m]?.getD 0 = s[m] := by rw [Array.getElem?_eq_getElem h']; rfl
  have l := s[m].toNat_lt
  rw [e]
  unfold wrap64; omega

set_option maxHeartbeats 1000000 in
theorem mix_any (h n : Int) (w : World) :
    Calls Try.prog 33 #[.int .u64 h, .int .i64 n] w fun e w' => e = .returned (.int .u64 (mixH h n)) ∧ w' = w := by
  go_enter Try.func33, Try.ntmps33
  go_wp2
  go_ret
  exact ⟨rfl, rfl⟩

set_option maxHeartbeats 2000000 in
theorem rowHash_any (p : Option Addr) (len cap : Nat) (x : Nat → Val) (w : World) (hl : len ≤ 9223372036854775807) (hR : RowP w p len x) (hs : ∀ i, i < len → (x i).s.size ≤ 9223372036854775807) :
    Calls Try.prog 20 #[.slice p len cap] w fun e w' => e = .returned (.int .u64 (hashTo x len)) ∧ Below w.heap.size w w' := by
  go_enter Try.func20, Try.ntmps20
  go_wp2
  go_loopw [3, 9] (fun h i wr => ∃ k : Nat, k ≤ len ∧ i = .int .i64 k ∧ h = .int .u64 (hashTo x k) ∧ Below w.heap.size w wr) (fun _ i _ => len - (intOf i).toNat)
  case atStart => exact ⟨0, Nat.zero_le _, rfl, rfl, ext_refl _⟩
  case round =>
    obtain ⟨k, hk, rfl, rfl, hE⟩ := hrel
    by_cases hlt : k < len
    · obtain ⟨b, off, rfl, S⟩ := (hR.ext hE).one hlt
      have q0 := S.c0 k hlt
      have q1 := S.c1 k hlt
      have q2 := S.c2 k hlt
      have hsz := hs k hlt
      go_wp2_with (first | (go_at_call 33; go_must (refine (mix_any _ _ _).mono ?_; rintro e w1 ⟨rfl, rfl⟩)))
      go_loopw [3, 29] (fun h i w2 => ∃ m : Nat, m ≤ (x k).s.size ∧ i = .int .i64 m ∧ h = .int .u64 (hashS (mixH (mixH (mixH (hashTo x k) (x k).k) (x k).n) (x k).s.size) (x k).s m) ∧ w2 = wr.alloc (.cells #[.int .i64 (x k).k, .int .i64 (x k).n, .string (x k).s] 36)) (fun _ i _ => (x k).s.size - (intOf i).toNat)
      case atStart => exact ⟨0, Nat.zero_le _, rfl, rfl, rfl⟩
      case round =>
        obtain ⟨m, hm, rfl, rfl, rfl⟩ := hrel
        by_cases hmt : m < (x k).s.size
        · go_wp2_with (first | (go_at_call 33; go_must (refine (mix_any _ _ _).mono ?_; rintro e w1 ⟨rfl, rfl⟩)))
          go_roundw
          case rel => exact ⟨m + 1, by omega, by go_num, by rw [hashS, byte_at _ _ hmt], trivial⟩
          case measure => simp [intOf]; omega
        · have hms : m = (x k).s.size := by omega
          subst hms
          go_wp2
          go_roundw
          case rel => exact ⟨k + 1, by omega, by go_num, rfl, ext_trans hE (by (repeat (first | exact ext_refl _ | assumption | (refine ext_alloc ?_ _) | (refine ext_drewN ?_ _) | refine ext_drew ?_ | (refine ext_set (by first | (simp; done) | (simp; omega)) _ ?_) | (refine ext_trans ?_ (by assumption)))))⟩
          case measure => simp [intOf]; omega
    · have hkl : k = len := by omega
      subst hkl
      go_wp2
      go_ret
      exact ⟨rfl, hE⟩

end Go.Proofs.Ytmhcdmebienlpaa
