/- The developers' suit: whether an operation may have operands of these kinds. Kind's function that calls itself; Kind. -/
import Derived.Test.YtiidfghdmaipoaaDoorDvR
import Derived.Test.YtiidfghdmaipoaaDoorAfter
namespace Go.Proofs.YtiidfghdmaipoaaDoor
open Go.RowKit
set_option maxRecDepth 100000

def suitP (a1 a b : Int) : Bool := if a1 = -1 then true else if a1 = -2 then (a == b || a == 0 || b == 0) else (a == 0 || a == a1) && (b == 0 || b == a1)

set_option maxHeartbeats 8000000 in
theorem suit_any (k : Nat) (a0 a1 a2 a3 a4 a5 a6 a b : Int) (hrow : needT[k]? = some [a0, a1, a2, a3, a4, a5, a6]) (w : World) (hG : GE w) :
    Calls Tryd.prog 49 #[.int .i64 (k : Int), .agg #[.int .i64 a, .int .i64 b]] w fun e w' => e = .returned (.bool (suitP a1 a b)) ∧ Below w.heap.size w w' := by
  have hk : k < 19 := (List.getElem?_eq_some_iff.1 hrow).1
  obtain ⟨W, hW⟩ : ∃ W, W = w.alloc (.cells #[.int .i64 a, .int .i64 b] 74) := ⟨_, rfl⟩
  have b0 : Below w.heap.size w W := by rw [hW]; (repeat (first | exact ext_refl _ | assumption | (refine ext_alloc ?_ _) | (refine ext_drewN ?_ _) | refine ext_drew ?_ | (refine ext_set (by first | (simp; done) | (simp; omega)) _ ?_) | (refine ext_trans ?_ (by assumption))))
  have hGW := hG.on b0
  have n1 := hGW.nd k 1 _ _ hrow rfl
  have c0 : W.cell? ⟨w.heap.size, 0, none⟩ = some (.int .i64 a) := by rw [hW]; simp [go_sem]
  have c1 : W.cell? ⟨w.heap.size, 1, none⟩ = some (.int .i64 b) := by rw [hW]; simp [go_sem]
  have lt : w.heap.size < W.heap.size := by rw [hW]; simp
  have HW := Lib.hid hW
  have HB := Lib.hid b0
  have l0 : 0 < W.heap.size := by have := hGW.size; omega
  have d1 : (k : Int) < 19 := by omega
  have d2 : (0 : Int) ≤ (k : Int) := by omega
  clear hG hGW hrow hW b0
  go_enter Tryd.func49, Tryd.ntmps49
  go_upto_region 1 with fail
  rw [← HW.out]
  clear HW
  obtain ⟨g, hg⟩ : ∃ g, g = w.heap.size := ⟨_, rfl⟩
  rw [← hg] at c0 c1 lt ⊢
  clear hg
  go_big_quiet (fail)
  have HB := Lib.hid (show Below w.heap.size w (W.drewN nq) by have := HB.out; (repeat (first | exact ext_refl _ | assumption | (refine ext_alloc ?_ _) | (refine ext_drewN ?_ _) | refine ext_drew ?_ | (refine ext_set (by first | (simp; done) | (simp; omega)) _ ?_) | (refine ext_trans ?_ (by assumption)))))
  obtain ⟨Z, hZ⟩ : ∃ Z : World, Z = W.drewN nq := ⟨_, rfl⟩
  have n1 : Z.cell? ⟨0, k * 7 + 1, none⟩ = some (.int .i64 a1) := by rw [hZ]; exact n1
  have lZ : 0 < Z.heap.size := by rw [hZ]; exact l0
  rw [← hZ] at HB ⊢
  clear hZ c0 c1 lt l0
  by_cases e1 : a1 = -1
  · have q1 : (a1 == -1) = true := by rw [beq_iff_eq]; exact e1
    have HQ := Lib.hid (show suitP a1 a b = true by unfold suitP; rw [if_pos e1])
    clear e1
    go_wp2_with fail
    refine bodyPost_ret (v := .bool true) (by simp [results, Tryd.results49, go_sem]) rfl ⟨by rw [HQ.out], HB.out⟩
  have q1 : (a1 == -1) = false := by rw [beq_eq_false_iff_ne]; exact e1
  by_cases e2 : a1 = -2
  · have q2 : (a1 == -2) = true := by rw [beq_iff_eq]; exact e2
    have HQ := Lib.hid (show suitP a1 a b = (a == b || a == 0 || b == 0) by unfold suitP; rw [if_neg e1, if_pos e2])
    clear e1 e2
    cases x1 : (a == b) with
    | false =>
      cases x2 : (a == 0) with
      | false =>
        cases x3 : (b == 0) with
        | false =>
          have HQ2 := Lib.hid (HQ.out.trans (show (a == b || a == 0 || b == 0) = false by rw [x1, x2, x3]; rfl))
          go_wp2_with fail
          refine bodyPost_ret (v := .bool false) (by simp [results, Tryd.results49, go_sem]) rfl ⟨by rw [HQ2.out], HB.out⟩
        | true =>
          have HQ2 := Lib.hid (HQ.out.trans (show (a == b || a == 0 || b == 0) = true by rw [x1, x2, x3]; rfl))
          go_wp2_with fail
          refine bodyPost_ret (v := .bool true) (by simp [results, Tryd.results49, go_sem]) rfl ⟨by rw [HQ2.out], HB.out⟩
      | true =>
        cases x3 : (b == 0) with
        | false =>
          have HQ2 := Lib.hid (HQ.out.trans (show (a == b || a == 0 || b == 0) = true by rw [x1, x2, x3]; rfl))
          go_wp2_with fail
          refine bodyPost_ret (v := .bool true) (by simp [results, Tryd.results49, go_sem]) rfl ⟨by rw [HQ2.out], HB.out⟩
        | true =>
          have HQ2 := Lib.hid (HQ.out.trans (show (a == b || a == 0 || b == 0) = true by rw [x1, x2, x3]; rfl))
          go_wp2_with fail
          refine bodyPost_ret (v := .bool true) (by simp [results, Tryd.results49, go_sem]) rfl ⟨by rw [HQ2.out], HB.out⟩
    | true =>
      cases x2 : (a == 0) with
      | false =>
        cases x3 : (b == 0) with
        | false =>
          have HQ2 := Lib.hid (HQ.out.trans (show (a == b || a == 0 || b == 0) = true by rw [x1, x2, x3]; rfl))
          go_wp2_with fail
          refine bodyPost_ret (v := .bool true) (by simp [results, Tryd.results49, go_sem]) rfl ⟨by rw [HQ2.out], HB.out⟩
        | true =>
          have HQ2 := Lib.hid (HQ.out.trans (show (a == b || a == 0 || b == 0) = true by rw [x1, x2, x3]; rfl))
          go_wp2_with fail
          refine bodyPost_ret (v := .bool true) (by simp [results, Tryd.results49, go_sem]) rfl ⟨by rw [HQ2.out], HB.out⟩
      | true =>
        cases x3 : (b == 0) with
        | false =>
          have HQ2 := Lib.hid (HQ.out.trans (show (a == b || a == 0 || b == 0) = true by rw [x1, x2, x3]; rfl))
          go_wp2_with fail
          refine bodyPost_ret (v := .bool true) (by simp [results, Tryd.results49, go_sem]) rfl ⟨by rw [HQ2.out], HB.out⟩
        | true =>
          have HQ2 := Lib.hid (HQ.out.trans (show (a == b || a == 0 || b == 0) = true by rw [x1, x2, x3]; rfl))
          go_wp2_with fail
          refine bodyPost_ret (v := .bool true) (by simp [results, Tryd.results49, go_sem]) rfl ⟨by rw [HQ2.out], HB.out⟩
  · have q2 : (a1 == -2) = false := by rw [beq_eq_false_iff_ne]; exact e2
    have HQ := Lib.hid (show suitP a1 a b = ((a == 0 || a == a1) && (b == 0 || b == a1)) by unfold suitP; rw [if_neg e1, if_neg e2])
    clear e1 e2
    cases x1 : (a == 0) with
    | false =>
      cases x2 : (a == a1) with
      | false =>
        cases x3 : (b == 0) with
        | false =>
          cases x4 : (b == a1) with
          | false =>
            have HQ2 := Lib.hid (HQ.out.trans (show ((a == 0 || a == a1) && (b == 0 || b == a1)) = false by rw [x1, x2, x3, x4]; rfl))
            go_wp2_with fail
            refine bodyPost_ret (v := .bool false) (by simp [results, Tryd.results49, go_sem]) rfl ⟨by rw [HQ2.out], HB.out⟩
          | true =>
            have HQ2 := Lib.hid (HQ.out.trans (show ((a == 0 || a == a1) && (b == 0 || b == a1)) = false by rw [x1, x2, x3, x4]; rfl))
            go_wp2_with fail
            refine bodyPost_ret (v := .bool false) (by simp [results, Tryd.results49, go_sem]) rfl ⟨by rw [HQ2.out], HB.out⟩
        | true =>
          cases x4 : (b == a1) with
          | false =>
            have HQ2 := Lib.hid (HQ.out.trans (show ((a == 0 || a == a1) && (b == 0 || b == a1)) = false by rw [x1, x2, x3, x4]; rfl))
            go_wp2_with fail
            refine bodyPost_ret (v := .bool false) (by simp [results, Tryd.results49, go_sem]) rfl ⟨by rw [HQ2.out], HB.out⟩
          | true =>
            have HQ2 := Lib.hid (HQ.out.trans (show ((a == 0 || a == a1) && (b == 0 || b == a1)) = false by rw [x1, x2, x3, x4]; rfl))
            go_wp2_with fail
            refine bodyPost_ret (v := .bool false) (by simp [results, Tryd.results49, go_sem]) rfl ⟨by rw [HQ2.out], HB.out⟩
      | true =>
        cases x3 : (b == 0) with
        | false =>
          cases x4 : (b == a1) with
          | false =>
            have HQ2 := Lib.hid (HQ.out.trans (show ((a == 0 || a == a1) && (b == 0 || b == a1)) = false by rw [x1, x2, x3, x4]; rfl))
            go_wp2_with fail
            refine bodyPost_ret (v := .bool false) (by simp [results, Tryd.results49, go_sem]) rfl ⟨by rw [HQ2.out], HB.out⟩
          | true =>
            have HQ2 := Lib.hid (HQ.out.trans (show ((a == 0 || a == a1) && (b == 0 || b == a1)) = true by rw [x1, x2, x3, x4]; rfl))
            go_wp2_with fail
            refine bodyPost_ret (v := .bool true) (by simp [results, Tryd.results49, go_sem]) rfl ⟨by rw [HQ2.out], HB.out⟩
        | true =>
          cases x4 : (b == a1) with
          | false =>
            have HQ2 := Lib.hid (HQ.out.trans (show ((a == 0 || a == a1) && (b == 0 || b == a1)) = true by rw [x1, x2, x3, x4]; rfl))
            go_wp2_with fail
            refine bodyPost_ret (v := .bool true) (by simp [results, Tryd.results49, go_sem]) rfl ⟨by rw [HQ2.out], HB.out⟩
          | true =>
            have HQ2 := Lib.hid (HQ.out.trans (show ((a == 0 || a == a1) && (b == 0 || b == a1)) = true by rw [x1, x2, x3, x4]; rfl))
            go_wp2_with fail
            refine bodyPost_ret (v := .bool true) (by simp [results, Tryd.results49, go_sem]) rfl ⟨by rw [HQ2.out], HB.out⟩
    | true =>
      cases x2 : (a == a1) with
      | false =>
        cases x3 : (b == 0) with
        | false =>
          cases x4 : (b == a1) with
          | false =>
            have HQ2 := Lib.hid (HQ.out.trans (show ((a == 0 || a == a1) && (b == 0 || b == a1)) = false by rw [x1, x2, x3, x4]; rfl))
            go_wp2_with fail
            refine bodyPost_ret (v := .bool false) (by simp [results, Tryd.results49, go_sem]) rfl ⟨by rw [HQ2.out], HB.out⟩
          | true =>
            have HQ2 := Lib.hid (HQ.out.trans (show ((a == 0 || a == a1) && (b == 0 || b == a1)) = true by rw [x1, x2, x3, x4]; rfl))
            go_wp2_with fail
            refine bodyPost_ret (v := .bool true) (by simp [results, Tryd.results49, go_sem]) rfl ⟨by rw [HQ2.out], HB.out⟩
        | true =>
          cases x4 : (b == a1) with
          | false =>
            have HQ2 := Lib.hid (HQ.out.trans (show ((a == 0 || a == a1) && (b == 0 || b == a1)) = true by rw [x1, x2, x3, x4]; rfl))
            go_wp2_with fail
            refine bodyPost_ret (v := .bool true) (by simp [results, Tryd.results49, go_sem]) rfl ⟨by rw [HQ2.out], HB.out⟩
          | true =>
            have HQ2 := Lib.hid (HQ.out.trans (show ((a == 0 || a == a1) && (b == 0 || b == a1)) = true by rw [x1, x2, x3, x4]; rfl))
            go_wp2_with fail
            refine bodyPost_ret (v := .bool true) (by simp [results, Tryd.results49, go_sem]) rfl ⟨by rw [HQ2.out], HB.out⟩
      | true =>
        cases x3 : (b == 0) with
        | false =>
          cases x4 : (b == a1) with
          | false =>
            have HQ2 := Lib.hid (HQ.out.trans (show ((a == 0 || a == a1) && (b == 0 || b == a1)) = false by rw [x1, x2, x3, x4]; rfl))
            go_wp2_with fail
            refine bodyPost_ret (v := .bool false) (by simp [results, Tryd.results49, go_sem]) rfl ⟨by rw [HQ2.out], HB.out⟩
          | true =>
            have HQ2 := Lib.hid (HQ.out.trans (show ((a == 0 || a == a1) && (b == 0 || b == a1)) = true by rw [x1, x2, x3, x4]; rfl))
            go_wp2_with fail
            refine bodyPost_ret (v := .bool true) (by simp [results, Tryd.results49, go_sem]) rfl ⟨by rw [HQ2.out], HB.out⟩
        | true =>
          cases x4 : (b == a1) with
          | false =>
            have HQ2 := Lib.hid (HQ.out.trans (show ((a == 0 || a == a1) && (b == 0 || b == a1)) = true by rw [x1, x2, x3, x4]; rfl))
            go_wp2_with fail
            refine bodyPost_ret (v := .bool true) (by simp [results, Tryd.results49, go_sem]) rfl ⟨by rw [HQ2.out], HB.out⟩
          | true =>
            have HQ2 := Lib.hid (HQ.out.trans (show ((a == 0 || a == a1) && (b == 0 || b == a1)) = true by rw [x1, x2, x3, x4]; rfl))
            go_wp2_with fail
            refine bodyPost_ret (v := .bool true) (by simp [results, Tryd.results49, go_sem]) rfl ⟨by rw [HQ2.out], HB.out⟩

end Go.Proofs.YtiidfghdmaipoaaDoor

namespace Go.Proofs.YtiidfghdmaipoaaDoor
open Go.RowKit
set_option maxRecDepth 100000

def suitK (op : Int) (l : List Int) : Bool :=
  if op ≤ 8 then l.all (fun k => k == 1 || k == 0) else if op ≤ 14 then (l.getD 0 0 == l.getD 1 0 || l.getD 0 0 == 0 || l.getD 1 0 == 0) else if op = 18 then true else l.all (fun k => k == 2 || k == 0)
def yieldsK (op : Int) : Int := if op ≤ 8 then 1 else 2
mutual
/-- The kind of an expression, where what it refers to is there; nothing: its operands have wrong kinds. -/
def kindE (cols : List (List Int)) (ps : List Int) : Ex → Option Int
  | .mk op v rel col n _ l => if op = 1 then some v.k else if op = 2 ∨ op = 3 then leafK op rel col n cols ps else match kindL cols ps l with
    | none => none
    | some ks => if suitK op ks = true then some (yieldsK op) else none
def kindL (cols : List (List Int)) (ps : List Int) : List Ex → Option (List Int)
  | [] => some []
  | x :: r => match kindE cols ps x with
    | none => none
    | some k => match kindL cols ps r with
      | none => none
      | some ks => some (k :: ks)
end
theorem kind_op {cols : List (List Int)} {ps : List Int} {op : Int} {v : Val} {rel col n : Int} {s : ByteArray} {l : List Ex} (h : 4 ≤ op) : kindE cols ps (.mk op v rel col n s l) = match kindL cols ps l with
    | none => none
    | some ks => if suitK op ks = true then some (yieldsK op) else none := by
  rw [kindE, if_neg (by omega), if_neg (by omega)]
theorem suit_row2 {k : Nat} (h1 : 4 ≤ k) (h2 : k ≤ 18) (hw : wantsOf (k : Int) = 2) : ∃ b0 b1 b2 b3 b4 b5 b6 : Int, needT[k]? = some [b0, b1, b2, b3, b4, b5, b6] ∧ (∀ {a b : Int}, suitP b1 a b = suitK k [a, b]) ∧ yieldsK k = b2 := by
  have h : k = 4 ∨ k = 5 ∨ k = 6 ∨ k = 7 ∨ k = 8 ∨ k = 9 ∨ k = 10 ∨ k = 11 ∨ k = 12 ∨ k = 13 ∨ k = 14 ∨ k = 15 ∨ k = 16 ∨ k = 17 ∨ k = 18 := by omega
  rcases h with rfl | rfl | rfl | rfl | rfl | rfl | rfl | rfl | rfl | rfl | rfl | rfl | rfl | rfl | rfl
  all_goals first
    | exact absurd hw (by decide)
    | (refine ⟨_, _, _, _, _, _, _, rfl, fun {a b} => ?_, rfl⟩
       unfold suitP suitK
       simp [List.all_cons, Bool.or_comm])
theorem suit_row1 {k : Nat} (h1 : 4 ≤ k) (h2 : k ≤ 18) (hw : wantsOf (k : Int) = 1) : ∃ b0 b1 b2 b3 b4 b5 b6 : Int, needT[k]? = some [b0, b1, b2, b3, b4, b5, b6] ∧ (∀ {a : Int}, suitP b1 a 0 = suitK k [a]) ∧ yieldsK k = b2 := by
  have h : k = 4 ∨ k = 5 ∨ k = 6 ∨ k = 7 ∨ k = 8 ∨ k = 9 ∨ k = 10 ∨ k = 11 ∨ k = 12 ∨ k = 13 ∨ k = 14 ∨ k = 15 ∨ k = 16 ∨ k = 17 ∨ k = 18 := by omega
  rcases h with rfl | rfl | rfl | rfl | rfl | rfl | rfl | rfl | rfl | rfl | rfl | rfl | rfl | rfl | rfl
  all_goals first
    | exact absurd hw (by decide)
    | (refine ⟨_, _, _, _, _, _, _, rfl, fun {a} => ?_, rfl⟩
       unfold suitP suitK
       simp [List.all_cons, Bool.or_comm])
/-- What is answered: a kind; nothing. -/
def KindIs : Option Int → Ending → Prop
  | some k, e => e = .returned (.tuple #[.int .i64 k, .bool true])
  | none, e => ∃ k, e = .returned (.tuple #[.int .i64 k, .bool false])
/-- What the function holds: the columns, the parameters, itself. -/
structure KD (w : World) (C P R : Nat) (cv pv : Value) : Prop where
  cC : w.cell? ⟨C, 0, none⟩ = some cv
  cP : w.cell? ⟨P, 0, none⟩ = some pv
  cR : w.cell? ⟨R, 0, none⟩ = some (.func (.func 47) #[] #[.pointer (some ⟨C, 0, none⟩), .pointer (some ⟨P, 0, none⟩), .pointer (some ⟨R, 0, none⟩)])
  lC : C < w.heap.size
  lP : P < w.heap.size
  lR : R < w.heap.size
theorem KD.on {w w' : World} {C P R : Nat} {cv pv : Value} (h : KD w C P R cv pv) (hb : Below w.heap.size w w') : KD w' C P R cv pv :=
  ⟨(hb.cell (p := ⟨_, _, none⟩) h.lC).trans h.cC, (hb.cell (p := ⟨_, _, none⟩) h.lP).trans h.cP, (hb.cell (p := ⟨_, _, none⟩) h.lR).trans h.cR, Nat.lt_of_lt_of_le h.lC hb.size, Nat.lt_of_lt_of_le h.lP hb.size, Nat.lt_of_lt_of_le h.lR hb.size⟩
theorem KD.set {w : World} {C P R : Nat} {cv pv : Value} (h : KD w C P R cv pv) {p : Addr} (hR : R ≠ p.block) (hC : C ≠ p.block) (hP : P ≠ p.block) (u : Value) : KD (w.setCell p u) C P R cv pv :=
  ⟨(World.cell?_setCell_other _ _ _ _ (fun e => hC (by rw [e]))).trans h.cC, (World.cell?_setCell_other _ _ _ _ (fun e => hP (by rw [e]))).trans h.cP, (World.cell?_setCell_other _ _ _ _ (fun e => hR (by rw [e]))).trans h.cR, by rw [World.size_setCell]; exact h.lC, by rw [World.size_setCell]; exact h.lP, by rw [World.size_setCell]; exact h.lR⟩
theorem EB.set {W : World} {g : Nat} {op : Int} {v : Val} {rel col n : Int} {s : ByteArray} {q : Option Addr} {len c : Nat} (h : EB W g op v rel col n s q len c) {p : Addr} (hp : p.block ≠ g) (u : Value) : EB (W.setCell p u) g op v rel col n s q len c :=
  h.out (Out.set (S := fun k => k = p.block) p u rfl) (fun e => hp e.symm)
/-- Two numbers in a block of their own that may be written. -/
structure AR (W : World) (h : Nat) (a b : Int) : Prop where
  lt : h < W.heap.size
  a0 : W.cell? ⟨h, 0, none⟩ = some (.int .i64 a)
  a1 : W.cell? ⟨h, 1, none⟩ = some (.int .i64 b)
  fz : ∀ o, W.frozen? ⟨h, o, none⟩ = false
theorem AR.on {W W' : World} {h : Nat} {a b : Int} (r : AR W h a b) (hb : Below W.heap.size W W') : AR W' h a b :=
  ⟨Nat.lt_of_lt_of_le r.lt hb.size, (hb.cell (p := ⟨_, _, none⟩) r.lt).trans r.a0, (hb.cell (p := ⟨_, _, none⟩) r.lt).trans r.a1, fun o => (hb.frozen (p := ⟨_, o, none⟩) r.lt).trans (r.fz o)⟩
theorem AR.set0 {W : World} {h : Nat} {a b : Int} (r : AR W h a b) (k : Int) : AR (W.setCell ⟨h, 0, none⟩ (.int .i64 k)) h k b :=
  ⟨by rw [World.size_setCell]; exact r.lt, World.cell?_setCell_same _ _ _ r.a0, (World.cell?_setCell_other _ _ _ _ (fun e => by cases e)).trans r.a1, fun o => by rw [World.frozen?_setCell]; exact r.fz o⟩
theorem AR.set1 {W : World} {h : Nat} {a b : Int} (r : AR W h a b) (k : Int) : AR (W.setCell ⟨h, 1, none⟩ (.int .i64 k)) h a k :=
  ⟨by rw [World.size_setCell]; exact r.lt, (World.cell?_setCell_other _ _ _ _ (fun e => by cases e)).trans r.a0, World.cell?_setCell_same _ _ _ r.a1, fun o => by rw [World.frozen?_setCell]; exact r.fz o⟩

theorem op_range {op : Int} {v : Val} {rel col n : Int} {s : ByteArray} {len : Nat} (h : headOk op v rel col n s len = true) : 1 ≤ op ∧ op ≤ 18 := by
  have h1 := (head_parts h).1
  unfold wantsOf at h1
  split at h1
  · omega
  · omega

def KindC (x : Ex) : Prop := ∀ (w : World) (cs : List Value) (C P R : Nat) (cv pv : Value) (cols : List (List Int)) (ps : List Int), ExM w x cs → KD w C P R cv pv → KM w cv pv cols ps → GE w →
  Calls Tryd.prog 47 #[.agg cs.toArray, .pointer (some ⟨C, 0, none⟩), .pointer (some ⟨P, 0, none⟩), .pointer (some ⟨R, 0, none⟩)] w fun e w' => KindIs (kindE cols ps x) e ∧ Below w.heap.size w w'

set_option maxHeartbeats 8000000 in
theorem kindC_mk (op : Int) (v : Val) (rel col n : Int) (s : ByteArray) (l : List Ex) (hh : headOk op v rel col n s l.length = true) (IH : ∀ y ∈ l, KindC y) : KindC (.mk op v rel col n s l) := by
  intro w cs C P R cv pv cols ps hx hD hM hG
  rw [ExM.iff] at hx
  obtain ⟨-, q, c, rfl, -, hl⟩ := hx
  obtain ⟨len, hlen⟩ : ∃ len, len = l.length := ⟨_, rfl⟩
  have HLEN := Lib.hid hlen
  rw [← hlen] at hh ⊢
  have HL := Lib.hid hl
  have HI := Lib.hid IH
  have HDw := Lib.hid hD
  have HMw := Lib.hid hM
  have HGw := Lib.hid hG
  have HH := Lib.hid hh
  clear hl IH hD hM hG hlen hh
  obtain ⟨⟨cq, cc, rfl, hcc, hcm, -⟩, pq, pc, rfl, hpc, hpm, -⟩ := id HMw.out
  have E0 := EB.new w op v rel col n s q len c 26
  have B0 : Below w.heap.size w (w.alloc (.cells (exCells op v rel col n s q len c).toArray 26)) := ext_alloc (ext_refl _) _
  obtain ⟨W, hW⟩ : ∃ W, W = w.alloc (.cells (exCells op v rel col n s q len c).toArray 26) := ⟨_, rfl⟩
  rw [← hW] at E0 B0
  go_enter Tryd.func47, Tryd.ntmps47
  go_upto_region 1 with fail
  rw [← hW]
  clear hW
  obtain ⟨g, hg⟩ : ∃ g, g = w.heap.size := ⟨_, rfl⟩
  have HB := Lib.hid B0
  have HGW := Lib.hid hg
  rw [← hg] at E0
  rw [← hg]
  clear B0 hg
  have HE := Lib.hid E0
  obtain ⟨lt, c0, c1, c2, c3, c4, c5, c6, c7, c8⟩ := E0
  have hop := op_range HH.out
  by_cases e1 : op = 1
  · have q1 : (op == 1) = true := by rw [beq_iff_eq]; exact e1
    have HQ := Lib.hid (show kindE cols ps (.mk op v rel col n s l) = some v.k by rw [kindE, if_pos e1])
    clear e1 hop
    go_wp2_with fail
    refine bodyPost_ret (v := .tuple #[.int .i64 v.k, .bool true]) (by simp [results, Tryd.results47, go_sem]) rfl ⟨by rw [HQ.out]; rfl, HB.out⟩
  have q1 : (op == 1) = false := by rw [beq_eq_false_iff_ne]; exact e1
  by_cases e23 : op = 2 ∨ op = 3
  · have HQ := Lib.hid (show kindE cols ps (.mk op v rel col n s l) = leafK op rel col n cols ps by rw [kindE, if_neg e1, if_pos e23])
    have H23 := Lib.hid e23
    have hDW := HDw.out.on HB.out
    have cC := hDW.cC
    have cP := hDW.cP
    have lC := hDW.lC
    have lP := hDW.lP
    clear hDW
    rcases e23 with e2 | e3
    · have q2 : (op == 2) = true := by rw [beq_iff_eq]; exact e2
      clear e2 e1 hop
      go_wp2_with fail
      refine (source_int op v rel col n s q len c W _ _ cols ps (HMw.out.on HB.out) HH.out H23.out).mono ?_
      rintro e X ⟨he, hbX⟩
      have HBX := Lib.hid (HB.out.trans (hbX.mono HB.out.size))
      clear hbX lt c0 c1 c2 c3 c4 c5 c6 c7 c8 cC cP lC lP
      cases hq : leafK op rel col n cols ps with
      | none =>
        rw [hq] at he HQ
        simp only [Option.getD_none, Option.isSome_none] at he
        clear hq
        subst he
        go_wp2_with fail
        refine bodyPost_ret (v := .tuple #[.int .i64 0, .bool false]) (by simp [results, Tryd.results47, go_sem]) rfl ⟨by rw [HQ.out]; exact ⟨_, rfl⟩, HBX.out⟩
      | some k =>
        rw [hq] at he HQ
        simp only [Option.getD_some, Option.isSome_some] at he
        clear hq
        subst he
        go_wp2_with fail
        refine bodyPost_ret (v := .tuple #[.int .i64 k, .bool true]) (by simp [results, Tryd.results47, go_sem]) rfl ⟨by rw [HQ.out]; rfl, HBX.out⟩
    · have q2 : (op == 2) = false := by rw [beq_eq_false_iff_ne]; omega
      have q3 : (op == 3) = true := by rw [beq_iff_eq]; exact e3
      clear e3 e1 hop
      go_wp2_with fail
      refine (source_int op v rel col n s q len c W _ _ cols ps (HMw.out.on HB.out) HH.out H23.out).mono ?_
      rintro e X ⟨he, hbX⟩
      have HBX := Lib.hid (HB.out.trans (hbX.mono HB.out.size))
      clear hbX lt c0 c1 c2 c3 c4 c5 c6 c7 c8 cC cP lC lP
      cases hq : leafK op rel col n cols ps with
      | none =>
        rw [hq] at he HQ
        simp only [Option.getD_none, Option.isSome_none] at he
        clear hq
        subst he
        go_wp2_with fail
        refine bodyPost_ret (v := .tuple #[.int .i64 0, .bool false]) (by simp [results, Tryd.results47, go_sem]) rfl ⟨by rw [HQ.out]; exact ⟨_, rfl⟩, HBX.out⟩
      | some k =>
        rw [hq] at he HQ
        simp only [Option.getD_some, Option.isSome_some] at he
        clear hq
        subst he
        go_wp2_with fail
        refine bodyPost_ret (v := .tuple #[.int .i64 k, .bool true]) (by simp [results, Tryd.results47, go_sem]) rfl ⟨by rw [HQ.out]; rfl, HBX.out⟩
  have q2 : (op == 2) = false := by rw [beq_eq_false_iff_ne]; exact fun e => e23 (.inl e)
  have q3 : (op == 3) = false := by rw [beq_eq_false_iff_ne]; exact fun e => e23 (.inr e)
  have H4 := Lib.hid (show 4 ≤ op by omega)
  have H18 := Lib.hid hop.2
  clear e1 e23 hop
  -- the array
  have hA : AR (W.alloc (.cells #[.int .i64 0, .int .i64 0] 74)) W.heap.size 0 0 := ⟨by simp, by simp [go_sem], by simp [go_sem], fun o => by simp [go_sem]⟩
  have bA : Below W.heap.size W (W.alloc (.cells #[.int .i64 0, .int .i64 0] 74)) := ext_alloc (ext_refl _) _
  have bw := HB.out.trans (bA.mono HB.out.size)
  have HSA := And.intro (HE.out.on bA) (And.intro hA (And.intro (HDw.out.on bw) (And.intro bw (HGw.out.on bw))))
  obtain ⟨h, hhd⟩ : ∃ h, h = W.heap.size := ⟨_, rfl⟩
  have HGH := Lib.hid (show g < h by rw [hhd]; exact lt)
  have HG4 := Lib.hid (show 4 ≤ g by rw [HGW.out]; exact HGw.out.size)
  have HCC := Lib.hid (show C < g ∧ P < g ∧ R < g by rw [HGW.out]; exact ⟨HDw.out.lC, HDw.out.lP, HDw.out.lR⟩)
  obtain ⟨U, hU⟩ : ∃ U, U = W.alloc (.cells #[.int .i64 0, .int .i64 0] 74) := ⟨_, rfl⟩
  rw [← hU, ← hhd] at HSA
  have HSU := Lib.hid HSA
  have HUW := Lib.hid hU
  have HHD := Lib.hid hhd
  clear hA bA bw HSA hU hhd
  go_upto_region 8 with fail
  rw [← HUW.out, ← HHD.out]
  clear HUW HHD HB HE HDw HGw lt c0 c1 c2 c3 c4 c5 c6 c7 c8 q1 q2 q3
  obtain ⟨lt, c0, c1, c2, c3, c4, c5, c6, c7, c8⟩ := HSU.out.1
  obtain ⟨ltA, a0, a1, af⟩ := HSU.out.2.1
  have cK := HSU.out.2.2.1.cR
  have lK := HSU.out.2.2.1.lR
  rcases l with _ | ⟨y0, _ | ⟨y1, _ | ⟨y2, r⟩⟩⟩
  · exfalso
    have h1 := (head_parts HH.out).1
    rw [HLEN.out] at h1
    have := H4.out
    unfold wantsOf at h1
    simp only [List.length_nil] at h1
    split at h1
    · omega
    · split at h1
      · omega
      · split at h1 <;> omega
  · skip
    obtain rfl : len = 1 := HLEN.out
    have HW1 := Lib.hid (show wantsOf op = 1 by have := (head_parts HH.out).1; simpa using this)
    have HLU := Lib.hid (ExL.ext HSU.out.2.2.2.1 _ _ _ HL.out)
    have HKU := Lib.hid (HMw.out.on HSU.out.2.2.2.1)
    have hl_ := ExL.at_ (j := 0) (x := y0) HLU.out rfl
    obtain ⟨g0, off0, cs0, hq0, hg0, hx0, hcell⟩ := hl_
    subst hq0
    have HX0 := Lib.hid hx0
    obtain ⟨op1, v1, rel1, col1, n1, s1, l1⟩ := y0
    rw [ExM.iff] at hx0
    obtain ⟨-, qq0, cc0, rfl, -, -⟩ := hx0
    have f0 := hcell 0 _ rfl
    have f1 := hcell 1 _ rfl
    have f2 := hcell 2 _ rfl
    have f3 := hcell 3 _ rfl
    have f4 := hcell 4 _ rfl
    have f5 := hcell 5 _ rfl
    have f6 := hcell 6 _ rfl
    have f7 := hcell 7 _ rfl
    have f8 := hcell 8 _ rfl
    simp only [Nat.zero_mul, Nat.add_zero] at f0 f1 f2 f3 f4 f5 f6 f7 f8
    clear hcell
    go_wp2_with fail
    refine wp_loop_rounds 2 ?_
    rw [rounds_succ]
    go_wp2_with fail
    refine (HI.out (Ex.mk op1 v1 rel1 col1 n1 s1 l1) (by simp) _ _ C P R _ _ cols ps (ExM.ext (ext_alloc (ext_refl _) _) _ _ HX0.out) (HSU.out.2.2.1.on (ext_alloc (ext_refl _) _)) (HKU.out.on (ext_alloc (ext_refl _) _)) (HSU.out.2.2.2.2.on (ext_alloc (ext_refl _) _))).mono ?_
    rintro e Z ⟨he, hb⟩
    have hb' := ext_trans (ext_alloc (ext_refl U) _) hb
    have HSZ := Lib.hid (And.intro (HSU.out.1.on hb') (And.intro (HSU.out.2.1.on hb') (And.intro (HSU.out.2.2.1.on hb') (And.intro (HSU.out.2.2.2.1.trans (hb'.mono HSU.out.2.2.2.1.size)) (HSU.out.2.2.2.2.on hb')))))
    clear f0 f1 f2 f3 f4 f5 f6 f7 f8
    clear lt c0 c1 c2 c3 c4 c5 c6 c7 c8 ltA a0 a1 af cK lK
    clear hb hb'
    obtain ⟨lt, c0, c1, c2, c3, c4, c5, c6, c7, c8⟩ := HSZ.out.1
    obtain ⟨ltA, a0, a1, af⟩ := HSZ.out.2.1
    have cK := HSZ.out.2.2.1.cR
    have lK := HSZ.out.2.2.1.lR
    cases hk0 : kindE cols ps (Ex.mk op1 v1 rel1 col1 n1 s1 l1) with
    | none =>
      rw [hk0] at he
      have HQ := Lib.hid (show kindE cols ps (.mk op v rel col n s [(Ex.mk op1 v1 rel1 col1 n1 s1 l1)]) = none by rw [kind_op (by have := H4.out; omega), kindL, hk0])
      obtain ⟨kk, rfl⟩ := he
      go_wp2_with fail
      refine bodyPost_ret (v := .tuple #[.int .i64 0, .bool false]) (by simp [results, Tryd.results47, go_sem]) rfl ⟨by rw [HQ.out]; exact ⟨_, rfl⟩, HSZ.out.2.2.2.1⟩
    | some k0 =>
      rw [hk0] at he
      have HK0 := Lib.hid hk0
      clear hk0
      simp only [KindIs] at he
      subst he
      have HSV := Lib.hid (And.intro (HSZ.out.1.set (p := ⟨h, 0, none⟩) (by have := HGH.out; show h ≠ g; omega) (.int .i64 k0)) (And.intro (HSZ.out.2.1.set0 k0) (And.intro (HSZ.out.2.2.1.set (p := ⟨h, 0, none⟩) (by have := HGH.out; have := HCC.out; show R ≠ h; omega) (by have := HGH.out; have := HCC.out; show C ≠ h; omega) (by have := HGH.out; have := HCC.out; show P ≠ h; omega) (.int .i64 k0)) (And.intro (ext_set (p := ⟨h, 0, none⟩) (by have := HGH.out; have := HGW.out; show w.heap.size ≤ h; omega) (.int .i64 k0) HSZ.out.2.2.2.1) (HSZ.out.2.2.2.2.set (a := ⟨h, 0, none⟩) (by have := HGH.out; have := HG4.out; show 4 ≤ h; omega) (.int .i64 k0))))))
      go_wp2_with fail
      rw [rounds_succ]
      obtain ⟨V, hV⟩ : ∃ X : World, X = Z.setCell ⟨h, 0, none⟩ (.int .i64 k0) := ⟨_, rfl⟩
      rw [← hV] at HSV
      rw [← hV]
      have HBV := Lib.hid (show Out (fun k => k = h) Z V by rw [hV]; exact Out.set _ _ rfl)
      clear hV
      clear lt c0 c1 c2 c3 c4 c5 c6 c7 c8 ltA a0 a1 af cK lK
      obtain ⟨lt, c0, c1, c2, c3, c4, c5, c6, c7, c8⟩ := HSV.out.1
      obtain ⟨ltA, a0, a1, af⟩ := HSV.out.2.1
      have cK := HSV.out.2.2.1.cR
      have lK := HSV.out.2.2.1.lR
      go_wp2_with fail
      obtain ⟨kn, hkn⟩ : ∃ kn : Nat, op = (kn : Int) := ⟨op.toNat, by have := H4.out; omega⟩
      obtain ⟨b0, b1, b2, b3, b4, b5, b6, hrow, hsuit, hyield⟩ := suit_row1 (k := kn) (by have := H4.out; omega) (by have := H18.out; omega) (by rw [← hkn]; exact HW1.out)
      have nn2 := HSV.out.2.2.2.2.nd kn 2 _ _ hrow rfl
      have l0 : 0 < V.heap.size := by have := HSV.out.2.2.2.2.size; omega
      have d1 : (kn : Int) < 19 := by have := H18.out; omega
      have d2 : (0 : Int) ≤ (kn : Int) := by omega
      have HSUIT := Lib.hid (fun (x : After V) => calls_after (suit_any kn b0 b1 b2 b3 b4 b5 b6 k0 0 hrow x.W (HSV.out.2.2.2.2.on x.below)))
      have HQ := Lib.hid (show KindIs (kindE cols ps (.mk op v rel col n s [(Ex.mk op1 v1 rel1 col1 n1 s1 l1)])) (.returned (.tuple #[.int .i64 b2, .bool (suitP b1 k0 0)])) by
        rw [kind_op (by have := H4.out; omega), kindL, HK0.out, kindL]
        simp only
        rw [hkn, ← hsuit, hyield]
        cases suitP b1 k0 0 with
        | true => rfl
        | false => exact ⟨_, rfl⟩)
      subst hkn
      have r0 := fun (x : After V) => (x.cell g 0 lt).trans c0
      have r1 := fun (x : After V) => (x.cell 0 (kn * 7 + 2) l0).trans nn2
      have r2 := fun (x : After V) => (x.cell h 0 ltA).trans a0
      have r3 := fun (x : After V) => (x.cell h 1 ltA).trans a1
      have is := After.some V
      clear hrow hsuit hyield nn2
      refine wp_region_after (by kernel_rfl) (by kernel_rfl) ?_
      repeat (quiet_step ((go_at_call 49; exact HSUIT.out _)))
      refine wpQuiet_nil ?_
      intro Wq hw
      obtain ⟨⟨Wq, hbq⟩, rfl⟩ := hw
      go_wp2_with fail
      refine bodyPost_ret (v := .tuple #[.int .i64 b2, .bool (suitP b1 k0 0)]) (by simp [results, Tryd.results47, go_sem]) rfl ⟨HQ.out, HSV.out.2.2.2.1.trans (hbq.mono HSV.out.2.2.2.1.size)⟩
  · skip
    obtain rfl : len = 2 := HLEN.out
    have HW2 := Lib.hid (show wantsOf op = 2 by have := (head_parts HH.out).1; simpa using this)
    have HLU := Lib.hid (ExL.ext HSU.out.2.2.2.1 _ _ _ HL.out)
    have HKU := Lib.hid (HMw.out.on HSU.out.2.2.2.1)
    have hl_ := ExL.at_ (j := 0) (x := y0) HLU.out rfl
    obtain ⟨g0, off0, cs0, hq0, hg0, hx0, hcell⟩ := hl_
    subst hq0
    have HX0 := Lib.hid hx0
    obtain ⟨op1, v1, rel1, col1, n1, s1, l1⟩ := y0
    rw [ExM.iff] at hx0
    obtain ⟨-, qq0, cc0, rfl, -, -⟩ := hx0
    have f0 := hcell 0 _ rfl
    have f1 := hcell 1 _ rfl
    have f2 := hcell 2 _ rfl
    have f3 := hcell 3 _ rfl
    have f4 := hcell 4 _ rfl
    have f5 := hcell 5 _ rfl
    have f6 := hcell 6 _ rfl
    have f7 := hcell 7 _ rfl
    have f8 := hcell 8 _ rfl
    simp only [Nat.zero_mul, Nat.add_zero] at f0 f1 f2 f3 f4 f5 f6 f7 f8
    clear hcell
    go_wp2_with fail
    refine wp_loop_rounds 3 ?_
    rw [rounds_succ]
    go_wp2_with fail
    refine (HI.out (Ex.mk op1 v1 rel1 col1 n1 s1 l1) (by simp) _ _ C P R _ _ cols ps (ExM.ext (ext_alloc (ext_refl _) _) _ _ HX0.out) (HSU.out.2.2.1.on (ext_alloc (ext_refl _) _)) (HKU.out.on (ext_alloc (ext_refl _) _)) (HSU.out.2.2.2.2.on (ext_alloc (ext_refl _) _))).mono ?_
    rintro e Z ⟨he, hb⟩
    have hb' := ext_trans (ext_alloc (ext_refl U) _) hb
    have HSZ := Lib.hid (And.intro (HSU.out.1.on hb') (And.intro (HSU.out.2.1.on hb') (And.intro (HSU.out.2.2.1.on hb') (And.intro (HSU.out.2.2.2.1.trans (hb'.mono HSU.out.2.2.2.1.size)) (HSU.out.2.2.2.2.on hb')))))
    clear f0 f1 f2 f3 f4 f5 f6 f7 f8
    clear lt c0 c1 c2 c3 c4 c5 c6 c7 c8 ltA a0 a1 af cK lK
    clear hb hb'
    obtain ⟨lt, c0, c1, c2, c3, c4, c5, c6, c7, c8⟩ := HSZ.out.1
    obtain ⟨ltA, a0, a1, af⟩ := HSZ.out.2.1
    have cK := HSZ.out.2.2.1.cR
    have lK := HSZ.out.2.2.1.lR
    cases hk0 : kindE cols ps (Ex.mk op1 v1 rel1 col1 n1 s1 l1) with
    | none =>
      rw [hk0] at he
      have HQ := Lib.hid (show kindE cols ps (.mk op v rel col n s [(Ex.mk op1 v1 rel1 col1 n1 s1 l1), y1]) = none by rw [kind_op (by have := H4.out; omega), kindL, hk0])
      obtain ⟨kk, rfl⟩ := he
      go_wp2_with fail
      refine bodyPost_ret (v := .tuple #[.int .i64 0, .bool false]) (by simp [results, Tryd.results47, go_sem]) rfl ⟨by rw [HQ.out]; exact ⟨_, rfl⟩, HSZ.out.2.2.2.1⟩
    | some k0 =>
      rw [hk0] at he
      have HK0 := Lib.hid hk0
      clear hk0
      simp only [KindIs] at he
      subst he
      have HSV := Lib.hid (And.intro (HSZ.out.1.set (p := ⟨h, 0, none⟩) (by have := HGH.out; show h ≠ g; omega) (.int .i64 k0)) (And.intro (HSZ.out.2.1.set0 k0) (And.intro (HSZ.out.2.2.1.set (p := ⟨h, 0, none⟩) (by have := HGH.out; have := HCC.out; show R ≠ h; omega) (by have := HGH.out; have := HCC.out; show C ≠ h; omega) (by have := HGH.out; have := HCC.out; show P ≠ h; omega) (.int .i64 k0)) (And.intro (ext_set (p := ⟨h, 0, none⟩) (by have := HGH.out; have := HGW.out; show w.heap.size ≤ h; omega) (.int .i64 k0) HSZ.out.2.2.2.1) (HSZ.out.2.2.2.2.set (a := ⟨h, 0, none⟩) (by have := HGH.out; have := HG4.out; show 4 ≤ h; omega) (.int .i64 k0))))))
      go_wp2_with fail
      rw [rounds_succ]
      obtain ⟨V, hV⟩ : ∃ X : World, X = Z.setCell ⟨h, 0, none⟩ (.int .i64 k0) := ⟨_, rfl⟩
      rw [← hV] at HSV
      rw [← hV]
      have HBV := Lib.hid (show Out (fun k => k = h) Z V by rw [hV]; exact Out.set _ _ rfl)
      clear hV
      clear lt c0 c1 c2 c3 c4 c5 c6 c7 c8 ltA a0 a1 af cK lK
      obtain ⟨lt, c0, c1, c2, c3, c4, c5, c6, c7, c8⟩ := HSV.out.1
      obtain ⟨ltA, a0, a1, af⟩ := HSV.out.2.1
      have cK := HSV.out.2.2.1.cR
      have lK := HSV.out.2.2.1.lR
      have HLV := Lib.hid (ExL.ext HSV.out.2.2.2.1 _ _ _ HL.out)
      have HKV := Lib.hid (HMw.out.on HSV.out.2.2.2.1)
      have hl_ := ExL.at_ (j := 1) (x := y1) HLV.out rfl
      obtain ⟨g1, off1, cs1, hq1, hg1, hx1, hcell⟩ := hl_
      obtain ⟨rfl, rfl⟩ : g1 = g0 ∧ off1 = off0 := by cases hq1; exact ⟨rfl, rfl⟩
      clear hq1
      have HX1 := Lib.hid hx1
      obtain ⟨op2, v2, rel2, col2, n2, s2, l2⟩ := y1
      rw [ExM.iff] at hx1
      obtain ⟨-, qq1, cc1, rfl, -, -⟩ := hx1
      have f0 := hcell 0 _ rfl
      have f1 := hcell 1 _ rfl
      have f2 := hcell 2 _ rfl
      have f3 := hcell 3 _ rfl
      have f4 := hcell 4 _ rfl
      have f5 := hcell 5 _ rfl
      have f6 := hcell 6 _ rfl
      have f7 := hcell 7 _ rfl
      have f8 := hcell 8 _ rfl
      clear hcell
      go_wp2_with fail
      refine (HI.out (Ex.mk op2 v2 rel2 col2 n2 s2 l2) (by simp) _ _ C P R _ _ cols ps (ExM.ext (ext_alloc (ext_refl _) _) _ _ HX1.out) (HSV.out.2.2.1.on (ext_alloc (ext_refl _) _)) (HKV.out.on (ext_alloc (ext_refl _) _)) (HSV.out.2.2.2.2.on (ext_alloc (ext_refl _) _))).mono ?_
      rintro e T ⟨he, hb⟩
      have hb' := ext_trans (ext_alloc (ext_refl V) _) hb
      have HST := Lib.hid (And.intro (HSV.out.1.on hb') (And.intro (HSV.out.2.1.on hb') (And.intro (HSV.out.2.2.1.on hb') (And.intro (HSV.out.2.2.2.1.trans (hb'.mono HSV.out.2.2.2.1.size)) (HSV.out.2.2.2.2.on hb')))))
      clear f0 f1 f2 f3 f4 f5 f6 f7 f8
      clear lt c0 c1 c2 c3 c4 c5 c6 c7 c8 ltA a0 a1 af cK lK
      clear hb hb'
      obtain ⟨lt, c0, c1, c2, c3, c4, c5, c6, c7, c8⟩ := HST.out.1
      obtain ⟨ltA, a0, a1, af⟩ := HST.out.2.1
      have cK := HST.out.2.2.1.cR
      have lK := HST.out.2.2.1.lR
      cases hk1 : kindE cols ps (Ex.mk op2 v2 rel2 col2 n2 s2 l2) with
      | none =>
        rw [hk1] at he
        have HQ := Lib.hid (show kindE cols ps (.mk op v rel col n s [(Ex.mk op1 v1 rel1 col1 n1 s1 l1), (Ex.mk op2 v2 rel2 col2 n2 s2 l2)]) = none by rw [kind_op (by have := H4.out; omega), kindL, HK0.out, kindL, hk1])
        obtain ⟨kk, rfl⟩ := he
        go_wp2_with fail
        refine bodyPost_ret (v := .tuple #[.int .i64 0, .bool false]) (by simp [results, Tryd.results47, go_sem]) rfl ⟨by rw [HQ.out]; exact ⟨_, rfl⟩, HST.out.2.2.2.1⟩
      | some k1 =>
        rw [hk1] at he
        have HK1 := Lib.hid hk1
        clear hk1
        simp only [KindIs] at he
        subst he
        have HSN := Lib.hid (And.intro (HST.out.1.set (p := ⟨h, 1, none⟩) (by have := HGH.out; show h ≠ g; omega) (.int .i64 k1)) (And.intro (HST.out.2.1.set1 k1) (And.intro (HST.out.2.2.1.set (p := ⟨h, 1, none⟩) (by have := HGH.out; have := HCC.out; show R ≠ h; omega) (by have := HGH.out; have := HCC.out; show C ≠ h; omega) (by have := HGH.out; have := HCC.out; show P ≠ h; omega) (.int .i64 k1)) (And.intro (ext_set (p := ⟨h, 1, none⟩) (by have := HGH.out; have := HGW.out; show w.heap.size ≤ h; omega) (.int .i64 k1) HST.out.2.2.2.1) (HST.out.2.2.2.2.set (a := ⟨h, 1, none⟩) (by have := HGH.out; have := HG4.out; show 4 ≤ h; omega) (.int .i64 k1))))))
        go_wp2_with fail
        rw [rounds_succ]
        obtain ⟨N, hN⟩ : ∃ X : World, X = T.setCell ⟨h, 1, none⟩ (.int .i64 k1) := ⟨_, rfl⟩
        rw [← hN] at HSN
        rw [← hN]
        have HBN := Lib.hid (show Out (fun k => k = h) T N by rw [hN]; exact Out.set _ _ rfl)
        clear hN
        clear lt c0 c1 c2 c3 c4 c5 c6 c7 c8 ltA a0 a1 af cK lK
        obtain ⟨lt, c0, c1, c2, c3, c4, c5, c6, c7, c8⟩ := HSN.out.1
        obtain ⟨ltA, a0, a1, af⟩ := HSN.out.2.1
        have cK := HSN.out.2.2.1.cR
        have lK := HSN.out.2.2.1.lR
        go_wp2_with fail
        obtain ⟨kn, hkn⟩ : ∃ kn : Nat, op = (kn : Int) := ⟨op.toNat, by have := H4.out; omega⟩
        obtain ⟨b0, b1, b2, b3, b4, b5, b6, hrow, hsuit, hyield⟩ := suit_row2 (k := kn) (by have := H4.out; omega) (by have := H18.out; omega) (by rw [← hkn]; exact HW2.out)
        have nn2 := HSN.out.2.2.2.2.nd kn 2 _ _ hrow rfl
        have l0 : 0 < N.heap.size := by have := HSN.out.2.2.2.2.size; omega
        have d1 : (kn : Int) < 19 := by have := H18.out; omega
        have d2 : (0 : Int) ≤ (kn : Int) := by omega
        have HSUIT := Lib.hid (fun (x : After N) => calls_after (suit_any kn b0 b1 b2 b3 b4 b5 b6 k0 k1 hrow x.W (HSN.out.2.2.2.2.on x.below)))
        have HQ := Lib.hid (show KindIs (kindE cols ps (.mk op v rel col n s [(Ex.mk op1 v1 rel1 col1 n1 s1 l1), (Ex.mk op2 v2 rel2 col2 n2 s2 l2)])) (.returned (.tuple #[.int .i64 b2, .bool (suitP b1 k0 k1)])) by
          rw [kind_op (by have := H4.out; omega), kindL, HK0.out, kindL, HK1.out, kindL]
          simp only
          rw [hkn, ← hsuit, hyield]
          cases suitP b1 k0 k1 with
          | true => rfl
          | false => exact ⟨_, rfl⟩)
        subst hkn
        have r0 := fun (x : After N) => (x.cell g 0 lt).trans c0
        have r1 := fun (x : After N) => (x.cell 0 (kn * 7 + 2) l0).trans nn2
        have r2 := fun (x : After N) => (x.cell h 0 ltA).trans a0
        have r3 := fun (x : After N) => (x.cell h 1 ltA).trans a1
        have is := After.some N
        clear hrow hsuit hyield nn2
        refine wp_region_after (by kernel_rfl) (by kernel_rfl) ?_
        repeat (quiet_step ((go_at_call 49; exact HSUIT.out _)))
        refine wpQuiet_nil ?_
        intro Wq hw
        obtain ⟨⟨Wq, hbq⟩, rfl⟩ := hw
        go_wp2_with fail
        refine bodyPost_ret (v := .tuple #[.int .i64 b2, .bool (suitP b1 k0 k1)]) (by simp [results, Tryd.results47, go_sem]) rfl ⟨HQ.out, HSN.out.2.2.2.1.trans (hbq.mono HSN.out.2.2.2.1.size)⟩
  · exfalso
    have h1 := head_two HH.out
    rw [HLEN.out] at h1
    simp only [List.length_cons] at h1
    omega

theorem kindC_any : ∀ (k : Nat) (x : Ex), x.deep ≤ k → x.okAll = true → KindC x
  | 0, x, h, _ => absurd (deep_pos x) (by omega)
  | k + 1, .mk op v rel col n s l, h, ho => by
    rw [Ex.okAll, Bool.and_eq_true] at ho
    exact kindC_mk op v rel col n s l ho.1 fun y hy => kindC_any k y (by rw [Ex.deep] at h; have := deepL_of_mem hy; omega) (by obtain ⟨i, hi, he⟩ := List.getElem_of_mem hy; exact okL_all ho.2 (i := i) (by rw [List.getElem?_eq_getElem hi, he]))

mutual
theorem known_nodes (cols : List (List Int)) (ps : List Int) : ∀ x : Ex, knownE cols ps x = x.nodes.all (okK cols ps)
  | .mk op v rel col n s l => by
    rw [knownE, Ex.nodes, List.all_cons, known_nodesL cols ps l]
    congr 1
    unfold okK
    by_cases h : op = 2 ∨ op = 3
    · rw [if_pos h]
    · rw [if_neg h]
      unfold leafK
      rw [if_neg (fun e => h (.inl e)), if_neg (fun e => h (.inr e))]
      rfl
theorem known_nodesL (cols : List (List Int)) (ps : List Int) : ∀ l : List Ex, knownL cols ps l = (nodesL l).all (okK cols ps)
  | [] => by rw [nodesL, knownL]; rfl
  | x :: r => by rw [nodesL, knownL, List.all_append, known_nodes cols ps x, known_nodesL cols ps r]
end
/-- Kind's answer. -/
def kindR (cols : List (List Int)) (ps : List Int) (x : Ex) : Int × Int := if (rightE x && knownE cols ps x) = true then (match kindE cols ps x with
  | some k => (k, 0)
  | none => (0, 9)) else (0, 1)

set_option maxHeartbeats 8000000 in
theorem dkind_any (x : Ex) (cs : List Value) (w : World) (cv pv : Value) (cols : List (List Int)) (ps : List Int) (hx : ExM w x cs) (hM : KM w cv pv cols ps) (hG : GE w) :
    Calls Tryd.prog 22 #[.agg cs.toArray, cv, pv] w fun e w' => e = .returned (.tuple #[.int .i64 (kindR cols ps x).1, .int .i64 (kindR cols ps x).2]) ∧ Below w.heap.size w w' := by
  have HX := Lib.hid hx
  have HM := Lib.hid hM
  have HG := Lib.hid hG
  have HC := Lib.hid (fun h => kindC_any _ x (Nat.le_refl _) h)
  obtain ⟨op, v, rel, col, n, s, l⟩ := x
  rw [ExM.iff] at hx
  obtain ⟨-, q, c, rfl, -, -⟩ := hx
  obtain ⟨⟨cq, cc, rfl, hcc, hcm, -⟩, pq, pc, rfl, hpc, hpm, -⟩ := id HM.out
  obtain ⟨len, hlen⟩ : ∃ len, len = l.length := ⟨_, rfl⟩
  rw [← hlen] at HX ⊢
  clear hlen hM hG
  have E0 := EB.new w op v rel col n s q len c 26
  obtain ⟨W1, hW1⟩ : ∃ W, W = w.alloc (.cells (exCells op v rel col n s q len c).toArray 26) := ⟨_, rfl⟩
  rw [← hW1] at E0
  have z1 : W1.heap.size = w.heap.size + 1 := by rw [hW1]; simp
  obtain ⟨W2, hW2⟩ : ∃ W, W = W1.alloc (.cells #[.slice cq cols.length cc] 46) := ⟨_, rfl⟩
  have x1 : W2.cell? ⟨w.heap.size + 1, 0, none⟩ = some (.slice cq cols.length cc) := by rw [hW2, ← z1]; simp [go_sem]
  have z2 : W2.heap.size = w.heap.size + 1 + 1 := by rw [hW2]; simp [z1]
  obtain ⟨W, hW⟩ : ∃ W, W = W2.alloc (.cells #[.slice pq ps.length pc] 45) := ⟨_, rfl⟩
  have x2 : W.cell? ⟨w.heap.size + 1 + 1, 0, none⟩ = some (.slice pq ps.length pc) := by rw [hW, ← z2]; simp [go_sem]
  have z3 : W.heap.size = w.heap.size + 1 + 1 + 1 := by rw [hW]; simp [z2]
  have b2 : Below W2.heap.size W2 W := by rw [hW]; (repeat (first | exact ext_refl _ | assumption | (refine ext_alloc ?_ _) | (refine ext_drewN ?_ _) | refine ext_drew ?_ | (refine ext_set (by first | (simp; done) | (simp; omega)) _ ?_) | (refine ext_trans ?_ (by assumption))))
  have b1 : Below W1.heap.size W1 W2 := by rw [hW2]; (repeat (first | exact ext_refl _ | assumption | (refine ext_alloc ?_ _) | (refine ext_drewN ?_ _) | refine ext_drew ?_ | (refine ext_set (by first | (simp; done) | (simp; omega)) _ ?_) | (refine ext_trans ?_ (by assumption))))
  have b : Below w.heap.size w W := by rw [hW, hW2, hW1]; (repeat (first | exact ext_refl _ | assumption | (refine ext_alloc ?_ _) | (refine ext_drewN ?_ _) | refine ext_drew ?_ | (refine ext_set (by first | (simp; done) | (simp; omega)) _ ?_) | (refine ext_trans ?_ (by assumption))))
  have x1 := (b2.cell (p := ⟨w.heap.size + 1, 0, none⟩) (by show w.heap.size + 1 < W2.heap.size; omega)).trans x1
  have EW := (E0.on b1).on b2
  have HWW := Lib.hid (show W = ((w.alloc (.cells (exCells op v rel col n s q len c).toArray 26)).alloc (.cells #[.slice cq cols.length cc] 46)).alloc (.cells #[.slice pq ps.length pc] 45) by rw [hW, hW2, hW1])
  have HB := Lib.hid b
  have HE := Lib.hid EW
  have HB1 := Lib.hid x1
  have HB2 := Lib.hid x2
  have HZ := Lib.hid z3
  clear hW hW1 hW2 E0 z1 z2 z3 b b1 b2 x1 x2
  go_enter Tryd.func22, Tryd.ntmps22
  go_upto_region 1 with fail
  rw [← HWW.out]
  clear HWW
  obtain ⟨g, hg⟩ : ∃ g, g = w.heap.size := ⟨_, rfl⟩
  rw [← hg] at HB1 HB2 HZ EW HE ⊢
  have HGW := Lib.hid hg
  clear hg
  obtain ⟨lt, c0, c1, c2, c3, c4, c5, c6, c7, c8⟩ := EW
  have x1 := HB1.out
  have x2 := HB2.out
  have l1 : g + 1 < W.heap.size := by have := HZ.out; omega
  have l2 : g + 1 + 1 < W.heap.size := by have := HZ.out; omega
  go_wp2_with fail
  refine (dright_any _ _ W (ExM.ext HB.out _ _ HX.out) (HG.out.on HB.out)).mono ?_
  rintro e X ⟨he, hbX⟩
  have HBX := Lib.hid (HB.out.trans (hbX.mono HB.out.size))
  have EX := HE.out.on hbX
  have HEX := Lib.hid EX
  have x1 := (hbX.cell (p := ⟨_, _, none⟩) l1).trans HB1.out
  have x2 := (hbX.cell (p := ⟨_, _, none⟩) l2).trans HB2.out
  have l1 := Nat.lt_of_lt_of_le l1 hbX.size
  have l2 := Nat.lt_of_lt_of_le l2 hbX.size
  have HXX := Lib.hid (And.intro x1 (And.intro x2 (And.intro l1 l2)))
  clear hbX lt c0 c1 c2 c3 c4 c5 c6 c7 c8 HB HE HB1 HB2 HZ
  obtain ⟨lt, c0, c1, c2, c3, c4, c5, c6, c7, c8⟩ := EX
  cases hs : rightE (.mk op v rel col n s l) with
  | false =>
    have HQ := Lib.hid (show kindR cols ps (.mk op v rel col n s l) = (0, 1) by unfold kindR; rw [hs]; rfl)
    rw [hs] at he
    clear hs
    subst he
    go_wp2_with fail
    refine bodyPost_ret (v := .tuple #[.int .i64 0, .int .i64 1]) (by simp [results, Tryd.results22, go_sem]) rfl ⟨by rw [HQ.out], HBX.out⟩
  | true =>
    have HR := Lib.hid hs
    have HP := Lib.hid (rightE_parts hs)
    rw [hs] at he
    clear hs
    subst he
    go_wp2_with fail
    refine (refers_int _ _ X _ _ cols ps (ExM.ext HBX.out _ _ HX.out) HP.out.1 (HM.out.on HBX.out)).mono ?_
    rintro e Y ⟨he, hbY⟩
    rw [← known_nodes] at he
    have HBY := Lib.hid (HBX.out.trans (hbY.mono HBX.out.size))
    have EY := HEX.out.on hbY
    have HEY := Lib.hid EY
    obtain ⟨x1, x2, l1, l2⟩ := HXX.out
    have x1 := (hbY.cell (p := ⟨_, _, none⟩) l1).trans x1
    have x2 := (hbY.cell (p := ⟨_, _, none⟩) l2).trans x2
    have l1 := Nat.lt_of_lt_of_le l1 hbY.size
    have l2 := Nat.lt_of_lt_of_le l2 hbY.size
    have HXY := Lib.hid (And.intro x1 (And.intro x2 (And.intro l1 l2)))
    clear hbY lt c0 c1 c2 c3 c4 c5 c6 c7 c8 HBX HEX HXX
    obtain ⟨lt, c0, c1, c2, c3, c4, c5, c6, c7, c8⟩ := EY
    cases hs : knownE cols ps (.mk op v rel col n s l) with
    | false =>
      have HQ := Lib.hid (show kindR cols ps (.mk op v rel col n s l) = (0, 1) by unfold kindR; rw [hs, Bool.and_false]; rfl)
      rw [hs] at he
      clear hs
      subst he
      go_wp2_with fail
      refine bodyPost_ret (v := .tuple #[.int .i64 0, .int .i64 1]) (by simp [results, Tryd.results22, go_sem]) rfl ⟨by rw [HQ.out], HBY.out⟩
    | true =>
      have HQ := Lib.hid (show kindR cols ps (.mk op v rel col n s l) = (match kindE cols ps (.mk op v rel col n s l) with
        | some k => (k, 0)
        | none => (0, 9)) by unfold kindR; rw [HR.out, hs]; rfl)
      rw [hs] at he
      clear hs
      subst he
      go_upto_region 5 with fail
      obtain ⟨R, hR⟩ : ∃ R, R = Y.heap.size := ⟨_, rfl⟩
      obtain ⟨V, hV⟩ : ∃ V, V = Y.alloc (.cells #[.func (.func 47) #[] #[.pointer (some ⟨g + 1, 0, none⟩), .pointer (some ⟨g + 1 + 1, 0, none⟩), .pointer (some ⟨Y.heap.size, 0, none⟩)]] 71) := ⟨_, rfl⟩
      rw [← hV]
      have bV : Below Y.heap.size Y V := by rw [hV]; (repeat (first | exact ext_refl _ | assumption | (refine ext_alloc ?_ _) | (refine ext_drewN ?_ _) | refine ext_drew ?_ | (refine ext_set (by first | (simp; done) | (simp; omega)) _ ?_) | (refine ext_trans ?_ (by assumption))))
      have cR : V.cell? ⟨R, 0, none⟩ = some (.func (.func 47) #[] #[.pointer (some ⟨g + 1, 0, none⟩), .pointer (some ⟨g + 1 + 1, 0, none⟩), .pointer (some ⟨R, 0, none⟩)]) := by rw [hV, hR]; simp [go_sem]
      have lR : R < V.heap.size := by rw [hV, hR]; simp
      have EV := HEY.out.on bV
      have hD : KD V (g + 1) (g + 1 + 1) R (.slice cq cols.length cc) (.slice pq ps.length pc) :=
        ⟨(bV.cell (p := ⟨_, _, none⟩) l1).trans x1, (bV.cell (p := ⟨_, _, none⟩) l2).trans x2, cR, Nat.lt_of_lt_of_le l1 bV.size, Nat.lt_of_lt_of_le l2 bV.size, lR⟩
      have HBV := Lib.hid (HBY.out.trans (bV.mono HBY.out.size))
      have HD := Lib.hid hD
      rw [← hR]
      clear hV bV hD x1 x2 l1 l2 lt c0 c1 c2 c3 c4 c5 c6 c7 c8 HBY HEY HXY hR
      obtain ⟨lt, c0, c1, c2, c3, c4, c5, c6, c7, c8⟩ := EV
      go_wp2_with fail
      refine (HC.out HP.out.1 V _ _ _ R _ _ cols ps (ExM.ext HBV.out _ _ HX.out) HD.out (HM.out.on HBV.out) (HG.out.on HBV.out)).mono ?_
      rintro e Z ⟨he, hbZ⟩
      have HBZ := Lib.hid (HBV.out.trans (hbZ.mono HBV.out.size))
      clear hbZ lt c0 c1 c2 c3 c4 c5 c6 c7 c8 cR lR
      cases hk : kindE cols ps (.mk op v rel col n s l) with
      | none =>
        rw [hk] at he
        have HQ2 := Lib.hid (HQ.out.trans (by rw [hk]))
        clear hk
        obtain ⟨kk, rfl⟩ := he
        go_wp2_with fail
        refine bodyPost_ret (v := .tuple #[.int .i64 0, .int .i64 9]) (by simp [results, Tryd.results22, go_sem]) rfl ⟨by rw [HQ2.out], HBZ.out⟩
      | some k =>
        rw [hk] at he
        have HQ2 := Lib.hid (HQ.out.trans (by rw [hk]))
        clear hk
        simp only [KindIs] at he
        subst he
        go_wp2_with fail
        refine bodyPost_ret (v := .tuple #[.int .i64 k, .int .i64 0]) (by simp [results, Tryd.results22, go_sem]) rfl ⟨by rw [HQ2.out], HBZ.out⟩

end Go.Proofs.YtiidfghdmaipoaaDoor
