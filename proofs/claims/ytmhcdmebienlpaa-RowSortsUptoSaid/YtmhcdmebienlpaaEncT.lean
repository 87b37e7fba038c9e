/- Any right value written as bytes. -/
import Derived.Test.YtmhcdmebienlpaaEnc
import Derived.Laws.CopyOwn
import Derived.StillTailTactics
namespace Go.Proofs.Ytmhcdmebienlpaa
open Go.RowKit

theorem wp_copy_text {w : World} {ops : Array Oper} {rest : List Oper} {o : Oper} {a : Act} {Q : Exit → Act → World → Prop} (hgd : o.guard = none) (s x : Operand)
    (ho : o.op = .call { callee := .builtin .copy, args := #[s, x], argTypes := #[47, 9] }) (b : Nat) (f : Nat → Int) (t : ByteArray) (hs : a.eval s = .slice (some ⟨b, 2, none⟩) 40 40) (hx : a.eval x = .string t) (hA : Arr w b f) (h40 : t.size ≤ 40)
    (h : ∀ w', Arr w' b (fun j => if 2 ≤ j ∧ j < 2 + t.size then ((t.data[j - 2]?.getD 0).toNat : Int) else f j) → Below b w w' → wpList Try.prog ops Q rest (a.put o.dst (.int .i64 t.size)) w') : wpList Try.prog ops Q (o :: rest) a w := by
  obtain ⟨cur, hg, hsz, hf⟩ := hA
  have hbc : (Lib.byteCells t.data.toList).length = t.size := by rw [Lib.byteCells_length, ← Lib.size_eq]
  have hr := Lib.run_copy_row_string (P := Try.prog) w 47 9 o.type 5 b 2 40 40 t cur 51 Try.underlying47 (by kernel_rfl) hg h40 (by omega)
  refine wpList_plain hgd fun K hK => ?_
  unfold Oper.wp execOp
  simp only [ho, resolve, invoke, builtin, Sem.run_bind, Sem.run_pure, Result.andThen_ok, List.map_toArray, List.map_cons, List.map_nil, hs, hx, hr]
  refine hK _ _ (h _ ?_ (Go.below_setRow (Below.refl _ _) (Nat.le_refl _) _))
  refine ⟨_, setRow_heap w b cur _ _ _ hg, ?_, fun j hj => ?_⟩
  · simp [hbc, hsz]; omega
  · rw [List.getElem?_toArray]
    show _ = some (Value.int IntKind.u8 (if 2 ≤ j ∧ j < 2 + t.size then ((t.data[j - 2]?.getD 0).toNat : Int) else f j))
    by_cases h1 : j < 2
    · rw [if_neg (by omega), List.getElem?_append_left (by simp [hbc, hsz]; omega), List.getElem?_append_left (by simp [hsz]; omega), List.getElem?_take, if_pos h1]
      simpa using hf j hj
    · by_cases h2 : j < 2 + t.size
      · rw [if_pos ⟨by omega, h2⟩, List.getElem?_append_left (by simp [hbc, hsz]; omega), List.getElem?_append_right (show (cur.toList.take 2).length ≤ j by simp [hsz]; omega)]
        have hj2 : j - 2 < t.data.size := by have : t.data.size = t.size := rfl; omega
        simp [Lib.byteCells, hsz, show min 2 42 = 2 by omega]
        exact ⟨_, Array.getElem?_eq_getElem hj2, by rw [Array.getElem?_eq_getElem hj2]; rfl⟩
      · have hl2 : (cur.toList.take 2 ++ Lib.byteCells t.data.toList).length = 2 + t.size := by simp [hbc, hsz]
        rw [if_neg (by omega), List.getElem?_append_right (show (cur.toList.take 2 ++ Lib.byteCells t.data.toList).length ≤ j by rw [hl2]; omega), List.getElem?_drop, hl2, show 2 + t.size + (j - (2 + t.size)) = j by omega]
        simpa using hf j hj

theorem Try.sliceTwo (W : World) (g : Nat) : (Instr.sliceAt 51 (Value.pointer (some ⟨g, 0, none⟩)) (some (Value.int .i64 2)) none none).run Try.prog W = .ok (.slice (some ⟨g, 2, none⟩) 40 40) W := by
  have hA : Try.prog.arrayLen 51 = 42 := by kernel_rfl
  have hC : Try.prog.cellsOf 5 = 1 := by kernel_rfl
  rw [run_sliceAt_array_l W 51 ⟨g, 0, none⟩ Try.underlying51 .i64 2 (by omega) (by rw [hA]; omega), hA]
  go_simp

theorem put_text (b : Nat) (n : Int) (s : ByteArray) (w : World) (A : Arr w b (fun _ => 0)) (hs : s.size ≤ 40) :
    Calls Try.prog 25 #[.pointer (some ⟨b, 0, none⟩), .agg #[.int .i64 3, .int .i64 n, .string s]] w fun e w' => IsPut b ⟨3, n, s⟩ w e w' := by
  have hlt := A.lt
  have hw : IntKind.u8.wrap (s.size : Int) = (s.size : Int) := by show (s.size : Int) % 256 = _; omega
  go_enter Try.func25, Try.ntmps25
  go_wp2
  refine gen_world (G := fun W => Code.wp _ _ _ _ W) (R := fun W => PutW b ⟨3, n, s⟩ w W (fun _ => 0)) _ (PutW.start A) ?_
  intro W0 P0
  have b0 := P0.box.c0
  have a0 := P0.arr.cell 0 (by omega)
  have fa := P0.arr.frozen
  go_region
  have P := P0.set hlt 0 3
  generalize (W0.setCell ⟨b, 0, none⟩ (.int .u8 3)).drew = W1 at P ⊢
  clear b0 a0 fa P0
  have b0 := P.box.c0
  have b2 := P.box.c2
  have a1 := P.arr.cell 1 (by omega)
  have fa := P.arr.frozen
  go_wp2
  go_region
  have P1 := P.set hlt 1 (s.size : Int)
  generalize (W1.setCell ⟨b, 1, none⟩ (.int .u8 (s.size : Int))).drew = W2 at P1 ⊢
  clear b0 b2 a1 fa P
  have b2 := P1.box.c2
  have hsl := fun W : World => Try.sliceTwo W b
  go_wp2
  go_still_tail 5, (by kernel_rfl)
  change wpList _ _ _ _ _ W2.drew
  have P2 := P1.drew
  generalize W2.drew = W3 at P2 ⊢
  refine wp_copy_text rfl _ _ rfl b _ s rfl rfl P2.arr hs ?_
  intro w1 A1 hb1
  go_wp2
  go_ret
  refine ⟨?_, ⟨_, A1, ?_⟩, ?_⟩
  · have e : s.data.size = s.size := rfl
    simp [encI, toI_length, e]
    omega
  · show ∀ (j : Nat) (y : Int), _
    intro j y hy
    match j, hy with
    | 0, hy => simp [encI] at hy; subst hy; rfl
    | 1, hy => simp [encI] at hy; subst hy; rfl
    | j + 2, hy =>
      simp [encI, toI] at hy
      obtain ⟨c, hc, rfl⟩ := hy
      have hj : j < s.data.size := (Array.getElem?_eq_some_iff.1 hc).1
      have : s.data.size = s.size := rfl
      rw [if_pos ⟨by omega, by omega⟩]
      simp [hc]
  · exact P2.below.trans hb1

theorem put_any (b : Nat) (x : Val) (w : World) (A : Arr w b (fun _ => 0)) (hr : x.right = true) : Calls Try.prog 25 #[.pointer (some ⟨b, 0, none⟩), x.v] w fun e w' => IsPut b x w e w' := by
  obtain ⟨k, n, s⟩ := x
  unfold Val.right at hr
  dsimp only at hr
  by_cases h0 : k = 0
  · subst h0; exact put_null b n s w A
  rw [if_neg h0] at hr
  by_cases h1 : k = 1
  · subst h1; exact put_int b n s w A
  rw [if_neg h1] at hr
  by_cases h2 : k = 2
  · subst h2
    rw [if_pos rfl] at hr
    refine put_bool b n s w A ?_
    simp at hr
    exact hr.1
  rw [if_neg h2] at hr
  by_cases h3 : k = 3
  · subst h3
    rw [if_pos rfl] at hr
    simp at hr
    exact put_text b n s w A hr.2
  rw [if_neg h3] at hr
  cases hr

end Go.Proofs.Ytmhcdmebienlpaa
