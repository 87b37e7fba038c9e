/- The chapter's examples, of which each law of layer 2 asks first: they are so. -/
import Derived.Test.YtmhcdmebienlpaaEncode
import Derived.Test.YtmhcdmebienlpaaDecode
import Derived.Test.YtmhcdmebienlpaaRowCmp
import Derived.Test.YtmhcdmebienlpaaRowHash
import Derived.Test.YtmhcdmebienlpaaAfter
namespace Go.Proofs.Ytmhcdmebienlpaa
open Go.RowKit

/-- The chapter's row. -/
def exRow (i : Nat) : Val := match i with
  | 0 => num 1
  | 1 => tru 1
  | 2 => ⟨3, 0, ⟨#[97, 98]⟩⟩
  | _ => nul

theorem exRow_at (W : World) (t : TypeId) (b : Nat) (hb : b < W.heap.size) (h : W.heap[b]? = some (.cells #[.int .i64 1, .int .i64 1, .string ⟨#[]⟩, .int .i64 2, .int .i64 1, .string ⟨#[]⟩, .int .i64 3, .int .i64 0, .string ⟨#[97, 98]⟩, .int .i64 0, .int .i64 0, .string ⟨#[]⟩] t)) (n : Nat) (hn : n ≤ 4) : RowP W (some ⟨b, 0, none⟩) n exRow := by
  refine .inr ⟨b, 0, rfl, fun _ => hb, ?_, ?_, ?_⟩
  all_goals
    intro i hi
    match i, hi with
    | 0, _ => simp [World.cell?, h, exRow]
    | 1, _ => simp [World.cell?, h, exRow]
    | 2, _ => simp [World.cell?, h, exRow]
    | 3, _ => simp [World.cell?, h, exRow]
    | i + 4, hi => omega

theorem ex_right : allRight 4 exRow = true := by
  simp [allRight, exRow, Val.right]
  decide
theorem ex_enc : encS 4 exRow = ⟨#[1, 0, 0, 0, 0, 0, 0, 0, 1, 2, 1, 3, 2, 97, 98, 0]⟩ := by
  unfold encS
  rw [if_neg (by omega), ex_right]
  rfl
theorem ex_encE : encE 4 exRow = 0 := by
  unfold encE
  rw [if_neg (by omega), ex_right]
  rfl
theorem ex_dec : decRun (ByteArray.mk #[2, 2]).size ⟨#[2, 2]⟩ [] = none := by rfl
theorem ex_cmp : cmpRow 1 2 exRow exRow = -1 := by simp [cmpRow, cmpFrom, exRow, Val.cmp, or3, ordI, ordS]
theorem ex_hash (x : Nat → Val) : hashTo x 0 = 14695981039346656037 := rfl

theorem ex_decode (w : World) : Calls Try.prog 14 #[.string ⟨#[2, 2]⟩] w fun e w' => e = .returned (.tuple #[.slice none 0 0, .int .i64 2]) ∧ Below w.heap.size w w' := by
  refine (decode_any ⟨#[2, 2]⟩ w (by decide)).mono ?_
  rintro e w1 ⟨h, hb⟩
  rw [ex_dec] at h
  exact ⟨h, hb⟩
theorem ex_encode (w : World) (p : Option Addr) (hR : RowP w p 4 exRow) : Calls Try.prog 11 #[.slice p 4 4] w fun e w' => e = .returned (.tuple #[.string ⟨#[1, 0, 0, 0, 0, 0, 0, 0, 1, 2, 1, 3, 2, 97, 98, 0]⟩, .int .i64 0]) ∧ Below w.heap.size w w' := by
  have h := encode_any p 4 4 exRow w (by omega) hR
  rwa [ex_enc, ex_encE] at h
theorem ex_compare (w : World) (p : Option Addr) (hR : ∀ n, n ≤ 4 → RowP w p n exRow) : Calls Try.prog 22 #[.slice p 1 4, .slice p 2 4] w fun e w' => e = .returned (.int .i64 (-1)) ∧ Below w.heap.size w w' := by
  have h := rowCompare_any p p 1 4 2 4 exRow exRow w (by omega) (by omega) (hR 1 (by omega)) (hR 2 (by omega))
  rwa [ex_cmp] at h
theorem ex_isRight (w : World) (p : Option Addr) (hR : ∀ n, n ≤ 4 → RowP w p n exRow) : Calls Try.prog 16 #[.slice p 4 4] w fun e w' => e = .returned (.bool true) ∧ Below w.heap.size w w' := by
  have h := rowRight_any p 4 4 exRow w (by omega) (hR 4 (by omega))
  rwa [ex_right] at h
theorem ex_hashNil (w : World) : Calls Try.prog 20 #[.slice none 0 0] w fun e w' => e = .returned (.int .u64 14695981039346656037) ∧ Below w.heap.size w w' :=
  rowHash_any none 0 0 exRow w (by omega) (.inl rfl) (by intro i hi; omega)

set_option maxHeartbeats 2000000 in
theorem ex2_any (w : World) : Calls Try.prog 10 #[] w fun e w' => e = .returned (.bool true) ∧ Below w.heap.size w w' := by
  go_enter Try.func10, Try.ntmps10
  go_wp2_with (first | (go_at_call 11; go_must (refine (ex_encode _ _ (exRow_at _ 36 w.heap.size (by simp) (heap_alloc_new w _) 4 (by omega))).mono ?_; rintro e w1 ⟨rfl, hb1⟩)) | (go_at_call 14; go_must (refine (ex_decode _).mono ?_; rintro e w2 ⟨rfl, hb2⟩)))
  have hR : ∀ n, n ≤ 4 → RowP w2 (some ⟨w.heap.size, 0, none⟩) n exRow := fun n hn => ((exRow_at _ 36 w.heap.size (by simp) (heap_alloc_new w _) n hn).ext hb1).ext hb2
  have is := After.some w2
  refine wp_region_after (by kernel_rfl) (by kernel_rfl) ?_
  repeat (quiet_step ((first | (go_at_call 22; exact calls_after (ex_compare _ _ (fun n hn => (hR n hn).ext (After.below _)))) | (go_at_call 16; exact calls_after (ex_isRight _ _ (fun n hn => (hR n hn).ext (After.below _)))) | (go_at_call 20; exact calls_after (ex_hashNil _)))))
  refine wpQuiet_nil ?_
  intro _ hw
  obtain ⟨⟨W1, hb⟩, rfl⟩ := hw
  clear is
  go_wp2
  go_ret
  refine ⟨rfl, ext_trans ?_ hb⟩
  (repeat (first | exact ext_refl _ | assumption | (refine ext_alloc ?_ _) | (refine ext_drewN ?_ _) | refine ext_drew ?_ | (refine ext_set (by first | (simp; done) | (simp; omega)) _ ?_) | (refine ext_trans ?_ (by assumption))))

end Go.Proofs.Ytmhcdmebienlpaa
