/- Of any text it is told whether it may be a name, of any tables whether they may be a database, as the chapter says: whatever the text and the tables. Conditions: none. -/
import Derived.Test.YtkeekefekajfnaaStE
import Derived.Test.YtkeekefekajfnaaSgI
import Derived.Test.YtkeekefekajfnaaStO
namespace Go.Proofs.Ytkeekefekajfnaa
open Go.ChangeShapes Go.WideShapes Go.ChangeAt Go.RowKit Go.Joins
set_option maxRecDepth 100000

theorem Tells.one {P : Prop} {a b : Bool} (h : a = true ↔ P) (h' : b = true ↔ P) : a = b := by
  cases a <;> cases b <;> simp_all

set_option maxHeartbeats 2000000 in
theorem names_walk {StP : World → (Nat → Prop) → Nat → List Tab → Kept → Nat → Prop} (C : StoreC StP) (s : ByteArray) (q : Option Addr) (l : List Tab) (c : Nat) (w : World) (hs : s.size ≤ 9223372036854775807) (hc : l.length ≤ c) (hc2 : c ≤ 9223372036854775807) (hT : TabsA w 0 w.heap.size q l) :
    Calls Try.prog 3 #[.string s, .slice q l.length c] w fun e w' => e = .returned (.bool true) ∧ Below w.heap.size w w' := by
  have HT := Lib.hid hT
  clear hT
  go_enter Try.func3, Try.ntmps3
  go_wp2_with fail
  refine (ex5_any C _).mono ?_
  rintro e w1 ⟨rfl, hb1⟩
  have E1 := Lib.hid hb1
  clear hb1
  go_wp2_with fail
  refine (C.name s w1 hs).mono ?_
  rintro e w2 ⟨⟨b, rfl, hn⟩, hb2⟩
  have E2 := Lib.hid (E1.out.trans (hb2.mono E1.out.size))
  have HN := Lib.hid hn
  clear hn hb2 E1
  go_wp2_with fail
  refine (rname_any s w2 hs).mono ?_
  rintro e w3 ⟨⟨b', rfl, hn⟩, hb3⟩
  obtain rfl : b = b' := Tells.one HN.out hn
  have E3 := Lib.hid (E2.out.trans (hb3.mono E2.out.size))
  clear hn hb3 E2 HN
  go_wp2_with fail
  refine (C.right l q c 0 w.heap.size w3 hc hc2 (HT.out.same (Same.of E3.out (Nat.le_refl _))) E3.out.size).mono ?_
  rintro e w4 ⟨⟨d, rfl, hn⟩, hb4⟩
  have E4 := Lib.hid (E3.out.trans (hb4.mono E3.out.size))
  have HN := Lib.hid hn
  clear hn hb4 E3
  go_wp2_with fail
  refine (rright5_any l q c 0 w.heap.size w4 hc hc2 (HT.out.same (Same.of E4.out (Nat.le_refl _))) E4.out.size).mono ?_
  rintro e w5 ⟨⟨d', rfl, hn⟩, hb5⟩
  obtain rfl : d = d' := Tells.one HN.out hn
  have E5 := Lib.hid (E4.out.trans (hb5.mono E4.out.size))
  clear hn hb5 E4 HN
  go_wp2
  go_ret
  exact ⟨rfl, E5.out⟩

/- FRAME -/

set_option maxRecDepth 100000 in
theorem storeNames_lifted (os : Os) (started : os.Started) (H : Type) (enc : TypeId × Value → H) :
    ReturnsInHanded {} Try.checked os 3 .any (Rows.storeNamesSpec.pre6 enc Try.prog Try.f3 Rows.storeNamesRow.domain false) (Rows.storeNamesSpec.post enc Try.prog Try.f3 false true false false) := by
  refine returnsInHanded_of_change_sized (C := Try.checked) Try.own started (by kernel_rfl) Try.func3
    (ChangeSpec.witness6 (enc := enc) (C := Try.checked) false ⟨#[], #[.string ⟨#[]⟩, .slice none 0 0], []⟩ 8 (by kernel_rfl) (by kernel_rfl) (by kernel_rfl) (by kernel_rfl)) ?_
  intro W base args ds gs before hval0 hW _ hsz _
  have hval : ∀ (j : Nat) t v, Try.f3.params[j]? = some t → args[j]? = some v → Value.okWide Try.prog W .any base t v := hval0
  have hW' := hW
  obtain ⟨p, q, hA0, hV, rfl, _, _⟩ := hW
  have hA : DataW.TrodAll enc Try.prog W 0 (fun _ => true) true Try.f3.params.toList args.toList ds p := hA0
  rw [Try.params3] at hA hval hsz
  obtain ⟨v0, v1, d0, d1, p0, p1, rfl, rfl, rfl, h0, h1⟩ := trodAll_two hA
  obtain ⟨s0, rfl, zs0⟩ := open_word6 (hval 0 9 v0 rfl rfl) h0 (fun n hn => of_decide_eq_true (List.all_eq_true.1 hsz _ (DataW.weights_mem_each (j := 0) (t := 9) rfl rfl n hn)))
  obtain ⟨q1, L1, c1, rfl, le1, m1, rb1, tx1, tr1⟩ := open_tables (hval 1 22 v1 rfl rfl) h1 (fun n hn => of_decide_eq_true (List.all_eq_true.1 hsz _ (DataW.weights_mem_each (j := 1) (t := 22) rfl rfl n hn)))
  clear hA0 hval0
  refine (names_walk storeC s0 q1 L1 c1 W (by unfold reachBytes at zs0; omega) le1 m1 tx1).mono fun e W' ⟨he, hb⟩ => ⟨_, he, post_law rfl hW' rfl rfl ?_ hb⟩
  intro t ht
  rw [Try.params3] at ht
  simp only [List.mem_cons, List.not_mem_nil, or_false] at ht
  rcases ht with rfl | rfl <;> exact ⟨by kernel_rfl, of_decide_eq_true (by kernel_rfl)⟩

theorem storeNames_holds : Rows.StoreNamesSaid :=
  OpenClaim.holds_of_wide 3 Try.f3 rfl rfl rfl rfl rfl rfl rfl ⟨rfl, rfl, rfl, rfl, rfl⟩ rfl rfl rfl rfl rfl (by kernel_rfl) Try.func3 (by kernel_rfl)
    (of_decide_eq_true (by kernel_rfl)) (by unfold Func.isWrapper; rw [if_neg (of_decide_eq_false (by kernel_rfl))]; exact ⟨rfl, rfl⟩)
    (fun os started H enc _ => storeNames_lifted os started H enc)

#print axioms storeNames_holds

end Go.Proofs.Ytkeekefekajfnaa
