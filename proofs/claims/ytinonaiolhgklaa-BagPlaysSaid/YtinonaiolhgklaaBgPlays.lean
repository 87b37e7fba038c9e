/- A bag does, text by text put in or taken out, just what the chapter says: whatever the texts. Conditions: none. -/
import Derived.Test.YtinonaiolhgklaaBgRF
import Derived.Test.YtinonaiolhgklaaBgO
import Derived.Deep.RegionHeld3
namespace Go.Proofs.Ytinonaiolhgklaa
open Go.ChangeShapes Go.WideShapes Go.ChangeAt Go.RowKit Go.Joins Go.Maps
open Go.Proofs (encStr)

/-- n truths, one behind the other, behind the address q. -/
def BolP (w : World) (q : Option Addr) (n : Nat) (t : Nat → Bool) : Prop := ∀ k, k < n → ∃ b off, q = some ⟨b, off, none⟩ ∧ b < w.heap.size ∧ ∀ i, i < n → w.cell? ⟨b, off + i, none⟩ = some (.bool (t i))
theorem ext_trans_at {N : Nat} {a b c : World} (h : Below N a b ∧ N ≤ a.heap.size) (k : Below b.heap.size b c) : Below N a c ∧ N ≤ a.heap.size := ⟨h.1.trans (k.mono (Nat.le_trans h.2 h.1.size)), h.2⟩
theorem lst_bound2 {T : Nat → ByteArray} {k : Nat} (hs : ∀ i, i < k → (T i).size ≤ 9223372036854775807) : ∀ s ∈ (lst T k).reverse, s.length ≤ 9223372036854775807 := by
  intro s h
  obtain ⟨i, hi, rfl⟩ := List.mem_map.1 (List.mem_reverse.1 h)
  rw [Array.length_toList]
  exact hs i (List.mem_range.1 hi)
theorem mem_same {A B : List Txt} (h : ∀ s, A.count s = B.count s) (s : Txt) : decide (s ∈ B) = decide (s ∈ A) := by
  have : s ∈ B ↔ s ∈ A := by rw [← List.count_pos_iff, ← List.count_pos_iff, h s]
  simp [this]

section
variable {H : Type} {enc : TypeId × Value → H}
open Go.Deep
theorem open_truths {W : World} {spare : Nat → Bool} {r : Reach} {b0 base : Nat} {v : Value} {d : DataW H} {p : List MemPlace} (hv : Value.okWide Try.prog W r b0 23 v) (h : DataW.Trod enc Try.prog W base spare true 23 v d p) :
    ∃ (q : Option Addr) (n cap : Nat) (t : Nat → Bool), v = .slice q n cap ∧ BolP W q n t := by
  have hC : Try.prog.cellsOf 4 = 1 := by kernel_rfl
  obtain ⟨a0, len, cap, rfl⟩ := okWide_slice Try.underlying23 hv
  obtain ⟨fuel, hf⟩ := h
  rcases open_slice1 Try.underlying23 hC hf with ⟨hc, _⟩ | ⟨a, len', cap', m, n, V, D, Pl, hc, hb, hl, hm, hmm, hx, hi⟩
  · simp [Value.cells] at hc
    obtain ⟨rfl, rfl, rfl⟩ := hc
    exact ⟨none, 0, 0, fun _ => false, rfl, fun k hk => absurd hk (Nat.not_lt_zero _)⟩
  · simp [Value.cells] at hc
    obtain ⟨rfl, rfl, rfl⟩ := hc
    have hlm : len ≤ m := by rw [hmm]; split <;> omega
    have each : ∀ i, i < len → ∃ t : Bool, V i = .bool t := by
      intro i hil
      obtain ⟨h1, h2⟩ := hi i (by omega)
      obtain ⟨t, h', _⟩ := DataW.trod_bool Try.underlying4 h2
      exact ⟨t, by simpa using h'⟩
    obtain ⟨t, ht⟩ := choose_lt each
    refine ⟨some a, len, cap, t, rfl, fun k hk => ?_⟩
    obtain ⟨ha, hlt⟩ := addr_cell (show W.cell? a = some (V 0) by
      have c := (hi 0 (by omega)).1
      rw [Addr.add, if_pos rfl] at c
      exact c)
    refine ⟨a.block, a.off, by rw [← ha], hlt, fun i hil => ?_⟩
    have c := (hi i (by omega)).1
    rw [ha, addr_plus, ht i hil] at c
    exact c
theorem texts_reach {d : DataW H} {n : Nat} (td : d = .nil ∧ n = 0 ∨ ∃ es sp, d = .slice es sp ∧ es.length = n) (hz : ∀ m ∈ d.weights Try.prog 22, m ≤ reachBytes) : (n + 200) * 16 ≤ 140737488355328 := by
  have hB : Try.prog.bytesOf 9 = 16 := by kernel_rfl
  rcases td with ⟨_, rfl⟩ | ⟨es, sp, rfl, rfl⟩
  · omega
  · have hw := hz ((es.length + sp.length) * Try.prog.bytesOf 9) (by simp [DataW.weights, Try.underlying22])
    rw [hB] at hw
    unfold reachBytes at hw
    omega
end

set_option maxRecDepth 100000 in
set_option maxHeartbeats 4000000 in
theorem plays_walk (q1 : Option Addr) (n1 c1 : Nat) (T1 : Nat → ByteArray) (q2 : Option Addr) (n2 c2 : Nat) (t2 : Nat → Bool) (q3 : Option Addr) (n3 c3 : Nat) (T3 : Nat → ByteArray) (w : World)
    (hT1 : TxtP w q1 n1 T1) (hT2 : BolP w q2 n2 t2) (hT3 : TxtP w q3 n3 T3) (hs1 : ∀ i, i < n1 → (T1 i).size ≤ 9223372036854775807) (hs3 : ∀ i, i < n3 → (T3 i).size ≤ 9223372036854775807) (hz : (n3 + 200) * 16 ≤ 140737488355328) :
    Calls Try.prog 3 #[.slice q1 n1 c1, .slice q2 n2 c2, .slice q3 n3 c3] w fun e w' => e = .returned (.bool true) ∧ Below w.heap.size w w' := by
  go_enter Try.func3, Try.ntmps3
  go_wp2_with fail
  refine (ex3_any _).mono ?_
  rintro e w1 ⟨rfl, hb1⟩
  have hT31 := hT3.ext hb1
  have E1 := Lib.hid hb1
  clear hT3 hb1
  go_wp2_with fail
  refine (of_any q3 n3 c3 T3 w1 hT31 (by omega) hs3).mono ?_
  rintro e w2 ⟨pb, mb, rfl, hB, hb2, hpb, hmb⟩
  have hT32 := hT31.ext hb2
  have E2 := Lib.hid (ext_trans E1.out hb2)
  have hpw : w.heap.size ≤ pb := Nat.le_trans E1.out.size hpb
  have hmw : w.heap.size ≤ mb := Nat.le_trans E1.out.size hmb
  clear hT31 hb2
  go_wp2_with fail
  refine (rof_any q3 n3 c3 T3 w2 hT32 (by omega)).mono ?_
  rintro e w3 ⟨px, X0, rfl, hX, hpX, hb3⟩
  have hB3 := hB.ext hb3
  have hxw : w.heap.size ≤ px := Nat.le_trans E2.out.size hX.low
  have E3 := Lib.hid (ext_trans E2.out hb3)
  have HST := Lib.hid (show BagP w3 pb mb n3 (lst T3 n3).reverse ∧ RefP w3 w2.heap.size px X0 ∧ (∀ s, (lst T3 n3).reverse.count s = X0.count s) ∧ (lst T3 n3).reverse.length = n3 ∧ X0.length = n3 from ⟨hB3, hX, fun s => by rw [List.count_reverse, kind_perm hpX s], by rw [List.length_reverse, lst_length], by rw [hpX.length_eq, lst_length]⟩)
  have HT1 := Lib.hid hT1
  have HT2 := Lib.hid hT2
  have HBS0 := Lib.hid (lst_bound2 hs3)
  clear hT32 hB hB3 hX hpX hb3 hT1 hT2
  go_wp2_with fail
  go_loopw [10] (fun vi wr => ∃ (i N : Nat) (B X : List Txt), vi = .int .i64 i ∧ i ≤ n1 ∧ i ≤ 200 ∧ Hid (BagP wr pb mb N B ∧ RefP wr w2.heap.size px X ∧ (∀ s, B.count s = X.count s) ∧ N ≤ n3 + i ∧ X.length ≤ n3 + i ∧ (∀ s ∈ B, s.length ≤ 9223372036854775807) ∧ (Below w.heap.size w wr ∧ w.heap.size ≤ w.heap.size))) (fun vi _ => n1 - (intOf vi).toNat)
  case atStart => exact ⟨0, n3, _, X0, rfl, Nat.zero_le _, by omega, ⟨HST.out.1, HST.out.2.1, HST.out.2.2.1, by omega, by have := HST.out.2.2.2.2; omega, HBS0.out, E3.out, Nat.le_refl _⟩⟩
  case round =>
    obtain ⟨i, N, B, X, rfl, hi, hi2, HH⟩ := hrel
    have hN := HH.out.2.2.2.1
    have hXl := HH.out.2.2.2.2.1
    have hBl : B.length = X.length := by
      have h1 := length_of_counts (A := B) (B := X) (fun s => by rw [HH.out.2.2.1 s]; omega)
      have h2 := length_of_counts (A := X) (B := B) (fun s => by rw [HH.out.2.2.1 s]; omega)
      omega
    have HBL := Lib.hid hBl
    clear hBl
    by_cases hlt : i < n1 ∧ i < 200
    · obtain ⟨hlt1, hlt2⟩ := hlt
      obtain ⟨b, off, rfl, hb, hc⟩ := HT1.out i hlt1
      obtain ⟨x, hx⟩ : ∃ x, x = (T1 i).data.toList := ⟨_, rfl⟩
      have hcx : wr.cell? ⟨b, off + i, none⟩ = some (.string ⟨x.toArray⟩) := by
        rw [(HH.out.2.2.2.2.2.2.1.cell (p := ⟨b, off + i, none⟩) hb).trans (hc i hlt1), hx]
      have hxs : x.length ≤ 9223372036854775807 := by rw [hx, Array.length_toList]; exact hs1 i hlt1
      have hbr : b < wr.heap.size := Nat.lt_of_lt_of_le hb HH.out.2.2.2.2.2.2.1.size
      have hnb1 : ¬ Two pb mb b := by rintro (h | h) <;> omega
      have hnb2 : ¬ b = px := by omega
      clear hc hx
      by_cases htk : i < n2 ∧ t2 i = true
      · obtain ⟨htk1, htk2⟩ := htk
        obtain ⟨b2, off2, rfl, hb2, hc2⟩ := HT2.out i htk1
        have ct := (HH.out.2.2.2.2.2.2.1.cell (p := ⟨b2, off2 + i, none⟩) hb2).trans (hc2 i htk1)
        rw [htk2] at ct
        clear hc2 htk2
        go_wp2_with fail
        have hBd : BagP wr.drew pb mb N B := HH.out.1.ext (Below.refl _ _).drew
        have hXd : RefP wr.drew w2.heap.size px X := HH.out.2.1.ext (Below.refl _ _).drew
        have hcd : wr.drew.cell? ⟨b, off + i, none⟩ = some (.string ⟨x.toArray⟩) := hcx
        have hEd := Lib.hid (ext_trans_at HH.out.2.2.2.2.2.2 (Below.refl wr.heap.size wr).drew)
        have HBd := Lib.hid hBd
        have HXd := Lib.hid hXd
        clear hBd hXd
        go_region_held3 (fun w' => w'.cell? ⟨b, off + i, none⟩ = some (.string ⟨x.toArray⟩))
          (first | exact hcd | exact hc5 | exact hc6) (first
            | (go_at_call 12; go_must (refine (bagTake_any pb mb N B ⟨x.toArray⟩ wr.drew (by show x.toArray.size ≤ _; simpa using hxs) HBd.out (by have := HBL.out; omega) (by omega)).mono ?_; rintro e W5 ⟨rfl, hB5, o5⟩; have hX5 := HXd.out.keep o5 (fun h => h.elim (HXd.out.apart HBd.out).1 (HXd.out.apart HBd.out).2) HBd.out.no_text; have hc5 : W5.cell? ⟨b, off + i, none⟩ = some (.string ⟨x.toArray⟩) := (World.cell?_of_block (w := wr.drew) (o5.block b hbr hnb1)).trans hcd; have HB5 := Lib.hid hB5; have HX5 := Lib.hid hX5; have HO5 := Lib.hid o5; clear hB5 hX5 o5))
            | (go_at_call 13; go_must (refine (rtake_any w2.heap.size px X x W5 HX5.out (by omega)).mono ?_; rintro e W6 ⟨rfl, ⟨M', hM', hp'⟩, o6⟩; rw [mem_same HH.out.2.2.1 x]; have hB6 := HB5.out.keep o6 (fun h => (HX5.out.apart HB5.out).1 h.symm) (fun h => (HX5.out.apart HB5.out).2 h.symm); have hc6 : W6.cell? ⟨b, off + i, none⟩ = some (.string ⟨x.toArray⟩) := (World.cell?_of_block (w := W5) (o6.block b (Nat.lt_of_lt_of_le hbr HO5.out.size) hnb2)).trans hc5; have HB6 := Lib.hid hB6; have HX6 := Lib.hid hM'; have HP6 := Lib.hid hp'; have HO6 := Lib.hid o6; clear hB6 hM' hp' o6)))
        obtain ⟨B', hB'⟩ : ∃ B', B' = B.erase x := ⟨_, rfl⟩
        have hB6 : BagP W6 pb mb (N + 1) B' := by rw [hB']; exact HB6.out
        have HBP := Lib.hid hB6
        have HXP := Lib.hid HX6.out
        obtain ⟨X', hX'⟩ : ∃ X', X' = M' := ⟨_, rfl⟩
        rw [← hX'] at HXP
        have HCT := Lib.hid (show ∀ s, B'.count s = X'.count s from fun s => by rw [hX', kind_perm HP6.out s, hB', List.count_erase, List.count_erase, HH.out.2.2.1 s])
        have HBS := Lib.hid (show X'.length ≤ n3 + (i + 1) by have h1 := HP6.out.length_eq; have h2 := (List.erase_sublist (a := x) (l := X)).length_le; rw [hX']; omega)
        have HBT := Lib.hid (show ∀ s ∈ B', s.length ≤ 9223372036854775807 from fun s h => HH.out.2.2.2.2.2.1 s (List.mem_of_mem_erase (by rw [hB'] at h; exact h)))
        have HEE := Lib.hid (show Below w.heap.size w W6 ∧ w.heap.size ≤ w.heap.size from ⟨(hEd.out.1.trans (HO5.out.below hEd.out.1.size fun k hk => by rcases hk with rfl | rfl <;> assumption)).trans (HO6.out.below (Nat.le_trans hEd.out.1.size HO5.out.size) fun k hk => by rw [hk]; assumption), Nat.le_refl _⟩)
        clear hB6 hB' hX' hcd hcx ct
        have hcB : B'.count x = X'.count x := HCT.out x
        have hxs' : x.length ≤ 9223372036854775807 := hxs
        have hbc : ∀ n, Calls Try.prog 16 #[.pointer (some ⟨pb, 0, none⟩), .string ⟨x.toArray⟩] (W6.drewN n) (fun e w'' => e = .returned (.int .i64 (X'.count x : Int)) ∧ ∃ k, w'' = W6.drewN k) := fun n => by
          have h := bcount_drew pb mb _ B' x W6 n hxs' HBP.out
          rw [hcB] at h
          exact h
        have HBC := Lib.hid hbc
        clear hbc hcB
        go_wp2_with fail
        go_big_quiet (first | (go_at_call 16; exact HBC.out _) | (go_at_call 17; exact rcount_drew _ px X' x W6 _ HXP.out))
        go_wp2
        go_roundw
        case rel =>
          have bq := ext_drewN (ext_refl W6) nq
          exact ⟨i + 1, N + 1, B', X', by go_num, by omega, by omega, ⟨HBP.out.ext bq, HXP.out.ext bq, HCT.out, by omega, HBS.out, HBT.out, ext_trans_at HEE.out bq⟩⟩
        case measure => simp [intOf]; omega
      · by_cases htk1 : i < n2
        · have htf : t2 i = false := by
            cases e : t2 i
            · rfl
            · exact absurd ⟨htk1, e⟩ htk
          obtain ⟨b2, off2, rfl, hb2, hc2⟩ := HT2.out i htk1
          have ct := (HH.out.2.2.2.2.2.2.1.cell (p := ⟨b2, off2 + i, none⟩) hb2).trans (hc2 i htk1)
          rw [htf] at ct
          clear hc2 htf htk
          have hBa := HH.out.1
          have hXa := HH.out.2.1
          have HEa := Lib.hid HH.out.2.2.2.2.2.2
          go_wp2_with fail
          refine (bagAdd_any pb mb N B ⟨x.toArray⟩ wr (by show x.toArray.size ≤ _; simpa using hxs) (by have := HBL.out; omega) (by omega) hBa).mono ?_
          rintro e W5 ⟨rfl, hB5, o5⟩
          have hX5 := hXa.keep o5 (fun h => h.elim (hXa.apart hBa).1 (hXa.apart hBa).2) hBa.no_text
          have hc5 : W5.cell? ⟨b, off + i, none⟩ = some (.string ⟨x.toArray⟩) := (World.cell?_of_block (w := wr) (o5.block b hbr hnb1)).trans hcx
          have HB5 := Lib.hid hB5
          have HX5 := Lib.hid hX5
          have HE5 := Lib.hid (show Below w.heap.size w W5 ∧ w.heap.size ≤ w.heap.size from ⟨HEa.out.1.trans (o5.below HEa.out.1.size fun k hk => by rcases hk with rfl | rfl <;> assumption), Nat.le_refl _⟩)
          have hbr5 := Nat.lt_of_lt_of_le hbr o5.size
          clear hB5 hX5 o5 hBa hXa
          go_wp2_with fail
          refine (radd_any w2.heap.size px X x W5 HX5.out (by omega)).mono ?_
          rintro e W6 ⟨rfl, ⟨X', hM', hp'⟩, o6⟩
          have hB6 := HB5.out.keep o6 (fun h => (HX5.out.apart HB5.out).1 h.symm) (fun h => (HX5.out.apart HB5.out).2 h.symm)
          have hc6 : W6.cell? ⟨b, off + i, none⟩ = some (.string ⟨x.toArray⟩) := (World.cell?_of_block (w := W5) (o6.block b hbr5 hnb2)).trans hc5
          obtain ⟨B', hB'⟩ : ∃ B', B' = x :: B := ⟨_, rfl⟩
          have hB6 : BagP W6 pb mb (N + 1) B' := by rw [hB']; exact hB6
          have HBP := Lib.hid hB6
          have HXP := Lib.hid hM'
          have HCT := Lib.hid (show ∀ s, B'.count s = X'.count s from fun s => by rw [kind_perm hp' s, hB', List.count_cons, List.count_cons, HH.out.2.2.1 s])
          have HBS := Lib.hid (show X'.length ≤ n3 + (i + 1) by have h1 := hp'.length_eq; simp at h1; omega)
          have HBT := Lib.hid (show ∀ s ∈ B', s.length ≤ 9223372036854775807 from fun s h => by
            rw [hB'] at h
            rcases List.mem_cons.1 h with rfl | h
            · exact hxs
            · exact HH.out.2.2.2.2.2.1 s h)
          have HEE := Lib.hid (show Below w.heap.size w W6 ∧ w.heap.size ≤ w.heap.size from ⟨HE5.out.1.trans (o6.below HE5.out.1.size fun k hk => by rw [hk]; assumption), Nat.le_refl _⟩)
          clear hB6 hM' hp' o6 hB' hc5 hcx ct
          have hcB : B'.count x = X'.count x := HCT.out x
          have hxs' : x.length ≤ 9223372036854775807 := hxs
          have hbc : ∀ n, Calls Try.prog 16 #[.pointer (some ⟨pb, 0, none⟩), .string ⟨x.toArray⟩] (W6.drewN n) (fun e w'' => e = .returned (.int .i64 (X'.count x : Int)) ∧ ∃ k, w'' = W6.drewN k) := fun n => by
            have h := bcount_drew pb mb _ B' x W6 n hxs' HBP.out
            rw [hcB] at h
            exact h
          have HBC := Lib.hid hbc
          clear hbc hcB
          go_wp2_with fail
          go_big_quiet (first | (go_at_call 16; exact HBC.out _) | (go_at_call 17; exact rcount_drew _ px X' x W6 _ HXP.out))
          go_wp2
          go_roundw
          case rel =>
            have bq := ext_drewN (ext_refl W6) nq
            exact ⟨i + 1, N + 1, B', X', by go_num, by omega, by omega, ⟨HBP.out.ext bq, HXP.out.ext bq, HCT.out, by omega, HBS.out, HBT.out, ext_trans_at HEE.out bq⟩⟩
          case measure => simp [intOf]; omega
        · clear htk
          have hBa := HH.out.1
          have hXa := HH.out.2.1
          have HEa := Lib.hid HH.out.2.2.2.2.2.2
          go_wp2_with fail
          refine (bagAdd_any pb mb N B ⟨x.toArray⟩ wr (by show x.toArray.size ≤ _; simpa using hxs) (by have := HBL.out; omega) (by omega) hBa).mono ?_
          rintro e W5 ⟨rfl, hB5, o5⟩
          have hX5 := hXa.keep o5 (fun h => h.elim (hXa.apart hBa).1 (hXa.apart hBa).2) hBa.no_text
          have hc5 : W5.cell? ⟨b, off + i, none⟩ = some (.string ⟨x.toArray⟩) := (World.cell?_of_block (w := wr) (o5.block b hbr hnb1)).trans hcx
          have HB5 := Lib.hid hB5
          have HX5 := Lib.hid hX5
          have HE5 := Lib.hid (show Below w.heap.size w W5 ∧ w.heap.size ≤ w.heap.size from ⟨HEa.out.1.trans (o5.below HEa.out.1.size fun k hk => by rcases hk with rfl | rfl <;> assumption), Nat.le_refl _⟩)
          have hbr5 := Nat.lt_of_lt_of_le hbr o5.size
          clear hB5 hX5 o5 hBa hXa
          go_wp2_with fail
          refine (radd_any w2.heap.size px X x W5 HX5.out (by omega)).mono ?_
          rintro e W6 ⟨rfl, ⟨X', hM', hp'⟩, o6⟩
          have hB6 := HB5.out.keep o6 (fun h => (HX5.out.apart HB5.out).1 h.symm) (fun h => (HX5.out.apart HB5.out).2 h.symm)
          have hc6 : W6.cell? ⟨b, off + i, none⟩ = some (.string ⟨x.toArray⟩) := (World.cell?_of_block (w := W5) (o6.block b hbr5 hnb2)).trans hc5
          obtain ⟨B', hB'⟩ : ∃ B', B' = x :: B := ⟨_, rfl⟩
          have hB6 : BagP W6 pb mb (N + 1) B' := by rw [hB']; exact hB6
          have HBP := Lib.hid hB6
          have HXP := Lib.hid hM'
          have HCT := Lib.hid (show ∀ s, B'.count s = X'.count s from fun s => by rw [kind_perm hp' s, hB', List.count_cons, List.count_cons, HH.out.2.2.1 s])
          have HBS := Lib.hid (show X'.length ≤ n3 + (i + 1) by have h1 := hp'.length_eq; simp at h1; omega)
          have HBT := Lib.hid (show ∀ s ∈ B', s.length ≤ 9223372036854775807 from fun s h => by
            rw [hB'] at h
            rcases List.mem_cons.1 h with rfl | h
            · exact hxs
            · exact HH.out.2.2.2.2.2.1 s h)
          have HEE := Lib.hid (show Below w.heap.size w W6 ∧ w.heap.size ≤ w.heap.size from ⟨HE5.out.1.trans (o6.below HE5.out.1.size fun k hk => by rw [hk]; assumption), Nat.le_refl _⟩)
          clear hB6 hM' hp' o6 hB' hc5 hcx
          have hcB : B'.count x = X'.count x := HCT.out x
          have hxs' : x.length ≤ 9223372036854775807 := hxs
          have hbc : ∀ n, Calls Try.prog 16 #[.pointer (some ⟨pb, 0, none⟩), .string ⟨x.toArray⟩] (W6.drewN n) (fun e w'' => e = .returned (.int .i64 (X'.count x : Int)) ∧ ∃ k, w'' = W6.drewN k) := fun n => by
            have h := bcount_drew pb mb _ B' x W6 n hxs' HBP.out
            rw [hcB] at h
            exact h
          have HBC := Lib.hid hbc
          clear hbc hcB
          go_wp2_with fail
          go_big_quiet (first | (go_at_call 16; exact HBC.out _) | (go_at_call 17; exact rcount_drew _ px X' x W6 _ HXP.out))
          go_wp2
          go_roundw
          case rel =>
            have bq := ext_drewN (ext_refl W6) nq
            exact ⟨i + 1, N + 1, B', X', by go_num, by omega, by omega, ⟨HBP.out.ext bq, HXP.out.ext bq, HCT.out, by omega, HBS.out, HBT.out, ext_trans_at HEE.out bq⟩⟩
          case measure => simp [intOf]; omega
    · by_cases hlt1 : i < n1
      · have hlt2 : ¬ i < 200 := fun h => hlt ⟨hlt1, h⟩
        clear hlt
        go_wp2_with fail
        refine (lsame_any pb mb N _ px B X wr HH.out.1 HH.out.2.1 HH.out.2.2.1 (by omega) (by omega) HH.out.2.2.2.2.2.1).mono ?_
        rintro e W5 ⟨rfl, hb5⟩
        go_wp2
        go_ret
        exact ⟨rfl, (ext_trans_at HH.out.2.2.2.2.2.2 hb5).1⟩
      · clear hlt
        go_wp2_with fail
        refine (lsame_any pb mb N _ px B X wr HH.out.1 HH.out.2.1 HH.out.2.2.1 (by omega) (by omega) HH.out.2.2.2.2.2.1).mono ?_
        rintro e W5 ⟨rfl, hb5⟩
        go_wp2
        go_ret
        exact ⟨rfl, (ext_trans_at HH.out.2.2.2.2.2.2 hb5).1⟩

/- FRAME -/

set_option maxRecDepth 100000 in
theorem bagPlays_lifted (os : Os) (started : os.Started) (H : Type) (enc : TypeId × Value → H) :
    ReturnsInHanded {} Try.checked os 3 .any (Rows.bagPlaysSpec.pre6 enc Try.prog Try.f3 Rows.bagPlaysRow.domain false) (Rows.bagPlaysSpec.post enc Try.prog Try.f3 false true false false) := by
  refine returnsInHanded_of_change_sized (C := Try.checked) Try.own started (by kernel_rfl) Try.func3
    (ChangeSpec.witness6 (enc := enc) (C := Try.checked) false ⟨#[], #[.slice none 0 0, .slice none 0 0, .slice none 0 0], []⟩ 8 (by kernel_rfl) (by kernel_rfl) (by kernel_rfl) (by kernel_rfl)) ?_
  intro W base args ds gs before hval0 hW _ hsz _
  have hval : ∀ (j : Nat) t v, Try.f3.params[j]? = some t → args[j]? = some v → Value.okWide Try.prog W .any base t v := hval0
  have hW' := hW
  obtain ⟨p, q, hA0, hV, rfl, _, _⟩ := hW
  have hA : DataW.TrodAll enc Try.prog W 0 (fun _ => true) true Try.f3.params.toList args.toList ds p := hA0
  rw [Try.params3] at hA hval hsz
  obtain ⟨v0, v1, v2, d0, d1, d2, p0, p1, p2, rfl, rfl, rfl, h0, h1, h2⟩ := trodAll_three hA
  obtain ⟨q0, n0, c0, T0, rfl, le0, m0, tx0, ts0, td0⟩ := open_texts (hval 0 22 v0 rfl rfl) h0
  obtain ⟨q1, n1, c1, T1, rfl, tx1⟩ := open_truths (hval 1 23 v1 rfl rfl) h1
  obtain ⟨q2, n2, c2, T2, rfl, le2, m2, tx2, ts2, td2⟩ := open_texts (hval 2 22 v2 rfl rfl) h2
  have zz0 := texts_reach td0 (fun n hn => of_decide_eq_true (List.all_eq_true.1 hsz _ (DataW.weights_mem_each (j := 0) (t := 22) rfl rfl n hn)))
  have zz2 := texts_reach td2 (fun n hn => of_decide_eq_true (List.all_eq_true.1 hsz _ (DataW.weights_mem_each (j := 2) (t := 22) rfl rfl n hn)))
  clear hA0 hval0
  refine (plays_walk q0 n0 c0 T0 q1 n1 c1 T1 q2 n2 c2 T2 W tx0 tx1 tx2 ts0 ts2 zz2).mono fun e W' ⟨he, hb⟩ => ⟨_, he, post_law rfl hW' rfl rfl ?_ hb⟩
  intro t ht
  rw [Try.params3] at ht
  simp only [List.mem_cons, List.not_mem_nil, or_false] at ht
  rcases ht with rfl | rfl | rfl <;> exact ⟨by kernel_rfl, of_decide_eq_true (by kernel_rfl)⟩

theorem bagPlays_holds : Rows.BagPlaysSaid :=
  OpenClaim.holds_of_wide 3 Try.f3 rfl rfl rfl rfl rfl rfl rfl ⟨rfl, rfl, rfl, rfl, rfl⟩ rfl rfl rfl rfl rfl (by kernel_rfl) Try.func3 (by kernel_rfl)
    (of_decide_eq_true (by kernel_rfl)) (by unfold Func.isWrapper; rw [if_neg (of_decide_eq_false (by kernel_rfl))]; exact ⟨rfl, rfl⟩)
    (fun os started H enc _ => bagPlays_lifted os started H enc)

#print axioms bagPlays_holds

end Go.Proofs.Ytinonaiolhgklaa
