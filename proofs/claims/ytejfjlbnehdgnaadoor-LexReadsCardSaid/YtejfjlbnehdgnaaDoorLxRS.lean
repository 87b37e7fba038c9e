/- The reference's token at a place: a sign. -/
import Derived.Test.YtejfjlbnehdgnaaDoorLxRN
namespace Go.Proofs.YtejfjlbnehdgnaaDoor
open Go.RowKit
set_option maxRecDepth 100000

/-- The reference's two tokens in memory: its answer's place, and the one it works at. -/
structure RS (w : World) (W : World) (kd n a : Int) (st : ByteArray) : Prop where
  below : Below w.heap.size w W
  lt : w.heap.size + 1 < W.heap.size
  c0 : W.cell? ⟨w.heap.size + 1, 0, none⟩ = some (.int .i64 kd)
  c1 : W.cell? ⟨w.heap.size + 1, 1, none⟩ = some (.int .i64 n)
  c2 : W.cell? ⟨w.heap.size + 1, 2, none⟩ = some (.int .i64 a)
  c3 : W.cell? ⟨w.heap.size + 1, 3, none⟩ = some (.string st)
  z0 : W.cell? ⟨w.heap.size, 0, none⟩ = some (.int .i64 0)
  z1 : W.cell? ⟨w.heap.size, 1, none⟩ = some (.int .i64 0)
  z2 : W.cell? ⟨w.heap.size, 2, none⟩ = some (.int .i64 0)
  z3 : W.cell? ⟨w.heap.size, 3, none⟩ = some (.string ⟨#[]⟩)
  f8 : ∀ o, W.frozen? ⟨w.heap.size + 1, o, none⟩ = false
  f4 : ∀ o, W.frozen? ⟨w.heap.size, o, none⟩ = false
theorem RS.ext {w W W' : World} {kd n a : Int} {st : ByteArray} (h : RS w W kd n a st) (hb : Below W.heap.size W W') : RS w W' kd n a st :=
  have l1 : w.heap.size < W.heap.size := Nat.lt_of_succ_lt h.lt
  ⟨h.below.trans (hb.mono (Nat.le_of_lt l1)), Nat.lt_of_lt_of_le h.lt hb.size, (hb.cell (p := ⟨_, _, none⟩) h.lt).trans h.c0, (hb.cell (p := ⟨_, _, none⟩) h.lt).trans h.c1, (hb.cell (p := ⟨_, _, none⟩) h.lt).trans h.c2, (hb.cell (p := ⟨_, _, none⟩) h.lt).trans h.c3,
    (hb.cell (p := ⟨_, _, none⟩) l1).trans h.z0, (hb.cell (p := ⟨_, _, none⟩) l1).trans h.z1, (hb.cell (p := ⟨_, _, none⟩) l1).trans h.z2, (hb.cell (p := ⟨_, _, none⟩) l1).trans h.z3,
    fun o => (hb.frozen (p := ⟨_, o, none⟩) h.lt).trans (h.f8 o), fun o => (hb.frozen (p := ⟨_, o, none⟩) l1).trans (h.f4 o)⟩
theorem RS.setS {w W : World} {kd n a : Int} {st : ByteArray} (h : RS w W kd n a st) (st' : ByteArray) : RS w (W.setCell ⟨w.heap.size + 1, 3, none⟩ (.string st')) kd n a st' :=
  ⟨h.below.setCell (Nat.le_succ _) _, by rw [World.size_setCell]; exact h.lt,
    (World.cell?_setCell_other _ _ _ _ (fun e => by cases e)).trans h.c0, (World.cell?_setCell_other _ _ _ _ (fun e => by cases e)).trans h.c1, (World.cell?_setCell_other _ _ _ _ (fun e => by cases e)).trans h.c2, World.cell?_setCell_same _ _ _ h.c3,
    (World.cell?_setCell_other _ _ _ _ (fun e => by simp at e)).trans h.z0, (World.cell?_setCell_other _ _ _ _ (fun e => by simp at e)).trans h.z1, (World.cell?_setCell_other _ _ _ _ (fun e => by simp at e)).trans h.z2, (World.cell?_setCell_other _ _ _ _ (fun e => by simp at e)).trans h.z3,
    fun o => by rw [World.frozen?_setCell]; exact h.f8 o, fun o => by rw [World.frozen?_setCell]; exact h.f4 o⟩
theorem RS.setK {w W : World} {kd n a : Int} {st : ByteArray} (h : RS w W kd n a st) (kd' : Int) : RS w (W.setCell ⟨w.heap.size + 1, 0, none⟩ (.int .i64 kd')) kd' n a st :=
  ⟨h.below.setCell (Nat.le_succ _) _, by rw [World.size_setCell]; exact h.lt,
    World.cell?_setCell_same _ _ _ h.c0, (World.cell?_setCell_other _ _ _ _ (fun e => by cases e)).trans h.c1, (World.cell?_setCell_other _ _ _ _ (fun e => by cases e)).trans h.c2, (World.cell?_setCell_other _ _ _ _ (fun e => by cases e)).trans h.c3,
    (World.cell?_setCell_other _ _ _ _ (fun e => by simp at e)).trans h.z0, (World.cell?_setCell_other _ _ _ _ (fun e => by simp at e)).trans h.z1, (World.cell?_setCell_other _ _ _ _ (fun e => by simp at e)).trans h.z2, (World.cell?_setCell_other _ _ _ _ (fun e => by simp at e)).trans h.z3,
    fun o => by rw [World.frozen?_setCell]; exact h.f8 o, fun o => by rw [World.frozen?_setCell]; exact h.f4 o⟩
theorem RS.new (w : World) (kd n a : Int) (st : ByteArray) (T : TypeId) : RS w ((w.alloc (.cells #[.int .i64 0, .int .i64 0, .int .i64 0, .string ⟨#[]⟩] T)).alloc (.cells #[.int .i64 kd, .int .i64 n, .int .i64 a, .string st] T)) kd n a st :=
  ⟨ext_alloc (ext_alloc (ext_refl _) _) _, by simp, by simp [go_sem], by simp [go_sem], by simp [go_sem], by simp [go_sem], by simp [go_sem], by simp [go_sem], by simp [go_sem], by simp [go_sem], fun o => by simp [go_sem], fun o => by simp [go_sem]⟩

def twos : List Bs := [[60, 61], [62, 61], [60, 62]]
/-- What stands in the token behind i of the two-byte signs. -/
def pickT (t2 : Option Bs) : Nat → Bs
  | 0 => []
  | i + 1 => if t2 = twos[i]? ∧ i < 3 then twos.getD i [] else pickT t2 i
/-- What stands in the token behind i of the one-byte signs. -/
def pickS (b : UInt8) : Nat → Bs
  | 0 => []
  | i + 1 => if singles[i]? = some b then [b] else pickS b i
theorem pickS_all (b : UInt8) : pickS b 11 = if b ∈ singles then [b] else [] := all_bytes (P := fun b => pickS b 11 = if b ∈ singles then [b] else []) (by decide) b
theorem pickT_none : pickT none 3 = [] := rfl

theorem RS.back {w W : World} {kd n a : Int} {st : ByteArray} (h : RS w W kd n a st) (kd' n' a' : Int) (st' : ByteArray) (X : World) (hX : X = ((((W.setCell ⟨w.heap.size, 0, none⟩ (.int .i64 kd')).setCell ⟨w.heap.size, 1, none⟩ (.int .i64 n')).setCell ⟨w.heap.size, 2, none⟩ (.int .i64 a')).setCell ⟨w.heap.size, 3, none⟩ (.string st'))) :
    X.cell? ⟨w.heap.size, 0, none⟩ = some (.int .i64 kd') ∧ X.cell? ⟨w.heap.size, 1, none⟩ = some (.int .i64 n') ∧ X.cell? ⟨w.heap.size, 2, none⟩ = some (.int .i64 a') ∧ X.cell? ⟨w.heap.size, 3, none⟩ = some (.string st') ∧ Below w.heap.size w X := by
  have z0 := h.z0
  have z1 := h.z1
  have z2 := h.z2
  have z3 := h.z3
  have hb := h.below
  subst hX
  clear h
  exact ⟨by simp [go_sem, z0], by simp [go_sem, z1], by simp [go_sem, z2], by simp [go_sem, z3], (((hb.setCell (Nat.le_refl _) _).setCell (Nat.le_refl _) _).setCell (Nat.le_refl _) _).setCell (Nat.le_refl _) _⟩
theorem pickT_some (b c : UInt8) : pickT (some [b, c]) 3 = if b = 60 ∧ c = 62 then [60, 62] else if b = 62 ∧ c = 61 then [62, 61] else if b = 60 ∧ c = 61 then [60, 61] else [] := by
  simp [pickT, twos]
theorem sign_link (b : UInt8) (r : Bs) : signOf (b :: r) = if pickT (match r[0]? with | some c => some [b, c] | none => none) 3 = [] then (if b ∈ singles then some [b] else none) else some (pickT (match r[0]? with | some c => some [b, c] | none => none) 3) := by
  cases r with
  | nil => rw [signOf_one]; rfl
  | cons c r =>
    rw [signOf_two, List.getElem?_cons_zero]
    simp only [pickT_some]
    by_cases h1 : b = 60 ∧ c = 62
    · obtain ⟨rfl, rfl⟩ := h1; rfl
    · by_cases h2 : b = 62 ∧ c = 61
      · obtain ⟨rfl, rfl⟩ := h2; rfl
      · by_cases h3 : b = 60 ∧ c = 61
        · obtain ⟨rfl, rfl⟩ := h3; rfl
        · simp only [if_neg h1, if_neg h2, if_neg h3, reduceIte]
theorem pickT_len (t2 : Option Bs) : (pickT t2 3).length = 0 ∨ (pickT t2 3).length = 2 := by
  rw [pickT]
  split
  · exact .inr rfl
  · rw [pickT]
    split
    · exact .inr rfl
    · rw [pickT]
      split
      · exact .inr rfl
      · exact .inl rfl
theorem sign_at (l : Bs) (k : Nat) (b : UInt8) (hb : l[k]? = some b) (t2 : Option Bs) (ht : t2 = (match l[k + 1]? with | some c => some [b, c] | none => none)) : signOf (l.drop k) = if pickT t2 3 = [] then (if b ∈ singles then some [b] else none) else some (pickT t2 3) := by
  obtain ⟨hl, rfl⟩ := List.getElem?_eq_some_iff.1 hb
  rw [List.drop_eq_getElem_cons hl, sign_link, List.getElem?_drop, Nat.add_zero, ← ht]

set_option maxHeartbeats 4000000 in
theorem rone_sign (s : ByteArray) (k : Nat) (w : World) (hk : k < s.size) (hs : s.size ≤ 2000) (b : UInt8) (hb : s.data.toList[k]? = some b) (hl : isLetter b = false) (hd : isDigit b = false) (h39 : b ≠ 39) (h36 : b ≠ 36) :
    Calls Tryd.prog 12 #[.string s, .int .i64 (k : Int)] w fun e w' => OneOut (oneSign (s.data.toList.drop k)) k e ∧ Below w.heap.size w w' := by
  obtain ⟨p4, p5⟩ := byt_data hb
  have eb := (byt_at s k p4).trans p5
  clear p5
  have m39 : ((b.toNat : Int) == 39) = false := by
    rw [beq_eq_false_iff_ne]
    intro h
    exact h39 (UInt8.toNat_inj.1 (by have : b.toNat = 39 := (by omega); rw [this]; rfl))
  have m36 : ((b.toNat : Int) == 36) = false := by
    rw [beq_eq_false_iff_ne]
    intro h
    exact h36 (UInt8.toNat_inj.1 (by have : b.toNat = 36 := (by omega); rw [this]; rfl))
  clear h39 h36
  have HB := Lib.hid hb
  clear hb
  go_enter Tryd.func12, Tryd.ntmps12
  go_wp2_with fail
  refine (rletter_any b _ rfl _).mono ?_
  rintro e w1 ⟨rfl, rfl⟩
  rw [hl]
  go_wp2_with fail
  refine (rdigit_any b _ rfl _).mono ?_
  rintro e w1 ⟨rfl, rfl⟩
  rw [hd]
  go_wp2_with fail
  have R0 := RS.new w 6 0 k ⟨#[]⟩ 31
  obtain ⟨W, hW⟩ : ∃ W, W = ((w.alloc (.cells #[.int .i64 0, .int .i64 0, .int .i64 0, .string ⟨#[]⟩] 31)).alloc (.cells #[.int .i64 6, .int .i64 0, .int .i64 (k : Int), .string ⟨#[]⟩] 31)) := ⟨_, rfl⟩
  have hWs : W.heap.size = w.heap.size + 1 + 1 := by rw [hW]; simp
  rw [← hW] at R0
  rw [← hW]
  clear hW
  obtain ⟨X, hX⟩ : ∃ X, X = W.alloc (.cells #[.string ⟨#[60, 61]⟩, .string ⟨#[62, 61]⟩, .string ⟨#[60, 62]⟩] 9) := ⟨_, rfl⟩
  have R1 : RS w X 6 0 k ⟨#[]⟩ := by rw [hX]; exact R0.ext (ext_alloc (ext_refl _) _)
  have hL : ∀ j tw, twos[j]? = some tw → X.cell? ⟨w.heap.size + 1 + 1, j, none⟩ = some (.string (bsB tw)) := by
    intro j tw hj
    rw [hX, ← hWs, Lib.cell_of_heap (heap_alloc_new W _)]
    match j, hj with
    | 0, hj => cases hj; rfl
    | 1, hj => cases hj; rfl
    | 2, hj => cases hj; rfl
    | j + 3, hj => cases hj
  rw [← hX]
  clear hX R0 hWs
  obtain ⟨g8, hg8⟩ : ∃ g8, g8 = w.heap.size + 1 := ⟨_, rfl⟩
  obtain ⟨g5, hg5⟩ : ∃ g5, g5 = w.heap.size + 1 + 1 := ⟨_, rfl⟩
  obtain ⟨t2, ht2⟩ : ∃ t2 : Option Bs, t2 = (match s.data.toList[k + 1]? with | some c => some [b, c] | none => none) := ⟨_, rfl⟩
  rw [← hg5] at hL
  rw [← hg5, ← hg8]
  have HT2 := Lib.hid ht2
  have HG8 := Lib.hid hg8
  have HG5 := Lib.hid hg5
  have H0 := Lib.hid (And.intro R1 hL)
  clear R1 hL ht2 hg8 hg5
  go_loopw [21] (fun vi wr => ∃ i : Nat, vi = .int .i64 i ∧ i ≤ 3 ∧ Hid (RS w wr 6 0 k (bsB (pickT t2 i)) ∧ ∀ j tw, twos[j]? = some tw → wr.cell? ⟨g5, j, none⟩ = some (.string (bsB tw)))) (fun vi _ => 3 - (intOf vi).toNat)
  case atStart => exact ⟨0, rfl, by omega, H0.out⟩
  case round =>
    clear H0
    obtain ⟨i, rfl, hi, HH⟩ := hrel
    obtain ⟨V, hV⟩ : ∃ V, V = wr := ⟨_, rfl⟩
    rw [← hV] at HH
    rw [← hV]
    clear hV
    by_cases hlt : i < 3
    · obtain ⟨tw, htw⟩ : ∃ tw, twos[i]? = some tw := ⟨_, List.getElem?_eq_getElem hlt⟩
      have cl := HH.out.2 i tw htw
      have c3 := HH.out.1.c3
      have f3 := HH.out.1.f8 3
      rw [← HG8.out] at c3 f3
      obtain ⟨L, hLL⟩ : ∃ L, L = bsB tw := ⟨_, rfl⟩
      rw [← hLL] at cl
      by_cases hend : k + 1 < s.size
      · obtain ⟨c, hc⟩ : ∃ c, s.data.toList[k + 1]? = some c := ⟨_, List.getElem?_eq_getElem (by rw [show s.data.toList.length = s.size from Array.length_toList]; exact hend)⟩
        have ht2 : t2 = some [b, c] := by rw [HT2.out, hc]
        have z1 : (k : Int) + 1 < (s.size : Int) := by omega
        have hext : s.extract k (k + 2) = bsB [b, c] := by
          have e1 := bsB_at s k b HB.out
          have e2 := bsB_at s (k + 1) c hc
          have e3 : s.extract k (k + 2) = s.extract k (k + 1) ++ s.extract (k + 1) (k + 1 + 1) := by
            rw [ByteArray.extract_append_extract]
            congr 1 <;> omega
          rw [e3, e1, e2, bsB_add]
          rfl
        by_cases heq : [b, c] = tw
        · have m1 : ((s.extract k (k + 2)).toList == L.toList) = true := by rw [hext, hLL, heq]; simp
          have hnext : bsB (pickT t2 (i + 1)) = L := by rw [pickT, if_pos ⟨by rw [ht2, heq, htw], hlt⟩, hLL, List.getD, htw]; rfl
          have HN := Lib.hid hnext
          have HTW := Lib.hid htw
          clear hnext hext hLL heq ht2 hc htw
          go_wp2_with fail
          go_big_quiet (fail)
          go_wp2_with fail
          go_roundw
          case rel =>
            refine ⟨i + 1, by go_num, hlt, ?_, fun j tw h => ?_⟩
            · rw [HG8.out, HN.out]; exact (HH.out.1.ext (ext_drewN (ext_refl _) nq)).setS L
            · exact (World.cell?_setCell_other _ _ _ _ (fun e => by have h1 := congrArg Addr.block e; have h2 := HG8.out; have h3 := HG5.out; simp at h1; omega)).trans (HH.out.2 j tw h)
          case measure => simp [intOf] <;> omega
        · have m1 : ((s.extract k (k + 2)).toList == L.toList) = false := by rw [hext, hLL, beq_eq_false_iff_ne]; intro h; exact heq (by simpa [ByteArray.toList_eq] using h)
          have hnext : pickT t2 (i + 1) = pickT t2 i := by
            rw [pickT, if_neg]
            intro h
            rw [ht2, htw] at h
            exact heq (by simpa using h.1)
          have HN := Lib.hid hnext
          clear hnext hext hLL heq ht2 hc htw
          go_wp2_with fail
          go_big_quiet (fail)
          go_wp2_with fail
          go_roundw
          case rel => exact ⟨i + 1, by go_num, hlt, by rw [HN.out]; exact HH.out.1.ext (ext_drewN (ext_refl _) nq), fun j tw h => HH.out.2 j tw h⟩
          case measure => simp [intOf] <;> omega
      · have ht2 : t2 = none := by rw [HT2.out, List.getElem?_eq_none (by rw [show s.data.toList.length = s.size from Array.length_toList]; omega)]
        have hnext : pickT t2 (i + 1) = pickT t2 i := by
          rw [pickT, if_neg]
          intro h
          rw [ht2, htw] at h
          cases h.1
        have HN := Lib.hid hnext
        have z1 : ¬ (k : Int) + 1 < (s.size : Int) := by omega
        clear hnext hLL ht2 htw
        go_wp2_with fail
        have z2 : decide ((k : Int) + 1 < (s.size : Int)) = false := decide_eq_false (by omega)
        go_big_quiet (fail)
        go_wp2_with fail
        go_roundw
        case rel => exact ⟨i + 1, by go_num, hlt, by rw [HN.out]; exact HH.out.1.ext (ext_drewN (ext_refl _) nq), fun j tw h => HH.out.2 j tw h⟩
        case measure => simp [intOf] <;> omega
    · obtain rfl : i = 3 := by omega
      obtain ⟨T, hT⟩ : ∃ T, T = pickT t2 3 := ⟨_, rfl⟩
      have r := HH.out.1
      rw [← hT] at r
      have R := Lib.hid r
      have HT := Lib.hid hT
      obtain ⟨c0, c1, c2, c3⟩ := And.intro r.c0 (And.intro r.c1 (And.intro r.c2 r.c3))
      obtain ⟨z0, z1, z2, z3⟩ := And.intro r.z0 (And.intro r.z1 (And.intro r.z2 r.z3))
      have f4 := r.f4
      have f8 := r.f8
      clear r hT HH
      rw [← HG8.out] at c0 c1 c2 c3 f8
      obtain ⟨ST, hST⟩ : ∃ ST, ST = bsB T := ⟨_, rfl⟩
      rw [← hST] at c3
      by_cases hTe : T = []
      · have m1 : ST.toList.isEmpty = true := by rw [hST, hTe, ByteArray.toList_eq]; rfl
        have HTE := Lib.hid hTe
        clear hTe hST
        have RV := R
        clear R f4 f8
        go_wp2_with fail
        obtain ⟨C, hC⟩ : ∃ C, C = ByteArray.mk #[60, 62, 61, 43, 45, 42, 47, 40, 41, 44, 46] := ⟨_, rfl⟩
        have hCl : C.data.toList = singles := by rw [hC]; rfl
        have hCs : C.size = 11 := by rw [hC]; rfl
        rw [← hC]
        clear hC c0 c1 c2 c3 z0 z1 z2 z3 m1
        go_loopw [23] (fun vi wr => ∃ i : Nat, vi = .int .i64 i ∧ i ≤ 11 ∧ Hid (RS w wr 6 0 k (bsB (pickS b i)))) (fun vi _ => 11 - (intOf vi).toNat)
        case atStart => exact ⟨0, rfl, by omega, by have := RV.out; rw [HTE.out] at this; exact this⟩
        case round =>
          clear RV
          obtain ⟨i, rfl, hi, HH⟩ := hrel
          obtain ⟨V, hV⟩ : ∃ V, V = wr := ⟨_, rfl⟩
          rw [← hV] at HH
          rw [← hV]
          clear hV
          by_cases hlt : i < 11
          · have c3 := HH.out.c3
            have f3 := HH.out.f8 3
            rw [← HG8.out] at c3 f3
            obtain ⟨c, hc⟩ : ∃ c, C.data.toList[i]? = some c := ⟨_, List.getElem?_eq_getElem (by rw [hCl]; exact hlt)⟩
            obtain ⟨q4, q5⟩ := byt_data hc
            have ec := (byt_at C i q4).trans q5
            have hext := bsB_at C i c hc
            by_cases hcb : c = b
            · have m2 : ((c.toNat : Int) == (b.toNat : Int)) = true := by rw [hcb]; simp
              have hnext : bsB (pickS b (i + 1)) = C.extract i (i + 1) := by rw [pickS, if_pos (by rw [← hCl, hc, hcb]), hext, hcb]
              have HN := Lib.hid hnext
              clear hnext hext hc hCl hcb q5
              go_wp2_with fail
              go_roundw
              case rel => exact ⟨i + 1, by go_num, hlt, by rw [HG8.out, HN.out]; exact HH.out.setS _⟩
              case measure => simp [intOf] <;> omega
            · have m2 : ((c.toNat : Int) == (b.toNat : Int)) = false := by
                rw [beq_eq_false_iff_ne]
                intro h
                exact hcb (UInt8.toNat_inj.1 (by omega))
              have hnext : pickS b (i + 1) = pickS b i := by rw [pickS, if_neg (by rw [← hCl, hc]; simpa using hcb)]
              have HN := Lib.hid hnext
              clear hnext hext hc hCl hcb q5
              go_wp2_with fail
              go_roundw
              case rel => exact ⟨i + 1, by go_num, hlt, by rw [HN.out]; exact HH.out⟩
              case measure => simp [intOf] <;> omega
          · obtain rfl : i = 11 := by omega
            have r := HH.out
            have HSL := Lib.hid (sign_at _ k b HB.out t2 HT2.out)
            rw [pickS_all] at r
            by_cases hbs : b ∈ singles
            · rw [if_pos hbs] at r
              have HR := Lib.hid r
              have he : oneSign (s.data.toList.drop k) = .tok 6 0 [b] 1 := by unfold oneSign; rw [HSL.out, ← HT.out, if_pos HTE.out, if_pos hbs]; rfl
              obtain ⟨S1, hS1⟩ : ∃ S1, S1 = bsB [b] := ⟨_, rfl⟩
              rw [← hS1] at r HR
              have m5 : S1.toList.isEmpty = false := by rw [hS1, ByteArray.toList_eq]; rfl
              have HS1 := Lib.hid hS1
              have HE := Lib.hid he
              obtain ⟨c0, c1, c2, c3⟩ := And.intro r.c0 (And.intro r.c1 (And.intro r.c2 r.c3))
              obtain ⟨z0, z1, z2, z3⟩ := And.intro r.z0 (And.intro r.z1 (And.intro r.z2 r.z3))
              have f4 := r.f4
              have f8 := r.f8
              clear r hCl HH hbs he hS1
              rw [← HG8.out] at c0 c1 c2 c3 f8
              go_wp2_with fail
              obtain ⟨X, hX⟩ : ∃ X, X = ((((V.setCell ⟨w.heap.size, 0, none⟩ (.int .i64 6)).setCell ⟨w.heap.size, 1, none⟩ (.int .i64 0)).setCell ⟨w.heap.size, 2, none⟩ (.int .i64 (k : Int))).setCell ⟨w.heap.size, 3, none⟩ (.string S1)) := ⟨_, rfl⟩
              obtain ⟨x0, x1, x2, x3, hbX⟩ := HR.out.back 6 0 k S1 X hX
              rw [← hX]
              clear hX
              refine bodyPost_ret (v := .tuple #[.agg #[.int .i64 6, .int .i64 0, .int .i64 (k : Int), .string S1], .int .i64 ((k : Int) + 1), .int .i64 0, .int .i64 0]) (by simp [results, Tryd.results12, go_sem, x0, x1, x2, x3]) rfl ⟨?_, hbX⟩
              rw [HE.out, HS1.out]
              rfl
            · rw [if_neg hbs] at r
              have HR := Lib.hid r
              have he : oneSign (s.data.toList.drop k) = .err 6 0 := by unfold oneSign; rw [HSL.out, ← HT.out, if_pos HTE.out, if_neg hbs]
              obtain ⟨S1, hS1⟩ : ∃ S1, S1 = bsB [] := ⟨_, rfl⟩
              rw [← hS1] at r HR
              have m5 : S1.toList.isEmpty = true := by rw [hS1, ByteArray.toList_eq]; rfl
              have HE := Lib.hid he
              obtain ⟨c0, c1, c2, c3⟩ := And.intro r.c0 (And.intro r.c1 (And.intro r.c2 r.c3))
              obtain ⟨z0, z1, z2, z3⟩ := And.intro r.z0 (And.intro r.z1 (And.intro r.z2 r.z3))
              have f4 := r.f4
              have f8 := r.f8
              clear r hCl HH hbs he hS1
              rw [← HG8.out] at c0 c1 c2 c3 f8
              go_wp2_with fail
              obtain ⟨X, hX⟩ : ∃ X, X = ((((V.setCell ⟨w.heap.size, 0, none⟩ (.int .i64 6)).setCell ⟨w.heap.size, 1, none⟩ (.int .i64 0)).setCell ⟨w.heap.size, 2, none⟩ (.int .i64 (k : Int))).setCell ⟨w.heap.size, 3, none⟩ (.string S1)) := ⟨_, rfl⟩
              obtain ⟨x0, x1, x2, x3, hbX⟩ := HR.out.back 6 0 k S1 X hX
              rw [← hX]
              clear hX
              refine bodyPost_ret (v := .tuple #[.agg #[.int .i64 6, .int .i64 0, .int .i64 (k : Int), .string S1], .int .i64 0, .int .i64 6, .int .i64 (k : Int)]) (by simp [results, Tryd.results12, go_sem, x0, x1, x2, x3]) rfl ⟨?_, hbX⟩
              rw [HE.out]
              exact ⟨_, _, _, _, rfl⟩
      · have m1 : ST.toList.isEmpty = false := by
          rw [hST, ByteArray.toList_eq]
          cases T with
          | nil => exact absurd rfl hTe
          | cons => rfl
        have HTE := Lib.hid hTe
        have HST := Lib.hid hST
        clear hTe hST
        have HSL := Lib.hid (sign_at _ k b HB.out t2 HT2.out)
        go_wp2_with fail
        obtain ⟨X, hX⟩ : ∃ X, X = ((((V.setCell ⟨w.heap.size, 0, none⟩ (.int .i64 6)).setCell ⟨w.heap.size, 1, none⟩ (.int .i64 0)).setCell ⟨w.heap.size, 2, none⟩ (.int .i64 (k : Int))).setCell ⟨w.heap.size, 3, none⟩ (.string ST)) := ⟨_, rfl⟩
        have r := R.out
        rw [← HST.out] at r
        obtain ⟨x0, x1, x2, x3, hbX⟩ := r.back 6 0 k ST X hX
        rw [← hX]
        clear hX
        refine bodyPost_ret (v := .tuple #[.agg #[.int .i64 6, .int .i64 0, .int .i64 (k : Int), .string ST], .int .i64 ((k : Int) + 1 + 1), .int .i64 0, .int .i64 0]) (by simp [results, Tryd.results12, go_sem, x0, x1, x2, x3]) rfl ⟨?_, hbX⟩
        have hl2 : (pickT t2 3).length = 2 := by
          rcases pickT_len t2 with h | h
          · exact absurd (by rw [HT.out]; exact List.length_eq_zero_iff.1 h) HTE.out
          · exact h
        have he : oneSign (s.data.toList.drop k) = .tok 6 0 T 2 := by unfold oneSign; rw [HSL.out, ← HT.out, if_neg HTE.out]; simp only; rw [HT.out, hl2]
        rw [he, HST.out]
        rfl

end Go.Proofs.YtejfjlbnehdgnaaDoor
