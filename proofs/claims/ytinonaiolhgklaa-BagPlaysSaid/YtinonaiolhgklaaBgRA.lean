/- The reference's bag: Add and Take. -/
import Derived.Test.YtinonaiolhgklaaBgR
namespace Go.Proofs.Ytinonaiolhgklaa
open Go.RowKit Go.Maps
open Go.Proofs (encStr)

theorem bl_eq2 : ∀ (x y : Txt), Op.bytesLess x y = decide (x < y)
  | [], [] => by simp [Op.bytesLess]
  | _ :: _, [] => by simp [Op.bytesLess]
  | [], _ :: _ => by simp [Op.bytesLess]
  | a :: x, b :: y => by
    rw [Op.bytesLess, bl_eq2 x y, Bool.eq_iff_iff]
    simp [List.cons_lt_cons_iff]

/-- Texts one behind the other, behind the address p. -/
def SrcS (w : World) (p : Option Addr) (l : List Txt) : Prop := l = [] ∨ ∃ b off, p = some ⟨b, off, none⟩ ∧ ∀ i u, l[i]? = some u → w.cell? ⟨b, off + i, none⟩ = some (.string ⟨u.toArray⟩)
theorem addr_more (b off n : Nat) : (⟨b, off, none⟩ : Addr).add n = ⟨b, off + n, none⟩ := by
  unfold Addr.add
  split
  · rename_i h; subst h; rfl
  · rfl
theorem wp_run_append {w : World} {ops : Array Oper} {rest : List Oper} {o : Oper} {a : Act} {Q : Exit → Act → World → Prop} (hgd : o.guard = none) (s x : Operand) (t : TypeId)
    (ho : o.op = .call { callee := .builtin .append, args := #[s, x], argTypes := #[t, t] }) (v y r : Value) (w1 : World) (hs : a.eval s = v) (hx : a.eval x = y)
    (hr : (Builtin.append_ #[t, t] o.type #[v, y]).run Try.prog w = .ok r w1) (h : wpList Try.prog ops Q rest (a.put o.dst r) w1) : wpList Try.prog ops Q (o :: rest) a w := by
  refine wpList_plain hgd fun K hK => ?_
  unfold Oper.wp execOp
  simp only [ho, resolve, invoke, builtin, Sem.run_bind, Sem.run_pure, Result.andThen_ok, List.map_toArray, List.map_cons, List.map_nil, hs, hx, hr]
  exact hK _ _ h
theorem wp_append_strs {w : World} {ops : Array Oper} {rest : List Oper} {o : Oper} {a : Act} {Q : Exit → Act → World → Prop} (hgd : o.guard = none) (s x : Operand)
    (ho : o.op = .call { callee := .builtin .append, args := #[s, x], argTypes := #[22, 22] }) (base : Nat) (v : Value) (l : List Txt) (hs : a.eval s = v) (hown : OwnS w base v l)
    (p : Option Addr) (n c : Nat) (m : List Txt) (hn : n = m.length) (hx : a.eval x = .slice p n c) (hR : SrcS w p m) (hlen : (l.length + m.length) * 16 ≤ 140737488355328) (hbase : base ≤ w.heap.size)
    (h : ∀ v' w', OwnS w' base v' (l ++ m) → Below base w w' → wpList Try.prog ops Q rest (a.put o.dst v') w') : wpList Try.prog ops Q (o :: rest) a w := by
  subst hn
  obtain ⟨i0, hi, hz0, hz1, hz2⟩ := info_parts Try.infoStr
  have go : ∀ ad : Addr, p = some ad → (∀ j u, m[j]? = some u → w.cell? (ad.add j) = some (.string ⟨u.toArray⟩)) → wpList Try.prog ops Q (o :: rest) a w := by
    intro ad hp hcells
    subst hp
    refine wpList_append_own w hgd s x 22 ho base 9 i0 (.string ⟨#[]⟩) 1 16 Try.underlying22 hi hz0 hz1 hz2 rfl (by decide) v l.length _ hs hown ad m.length c (m.map encStr) hx (by simp) ?_ ?_ (by unfold maxLen; omega) (by omega) hbase ?_
    · intro j u hj
      rw [List.getElem?_map] at hj
      cases e : m[j]? with
      | none => rw [e] at hj; cases hj
      | some y =>
        rw [e] at hj
        simp at hj
        subst hj
        exact hcells j y e
    · intro u hu
      obtain ⟨y, _, rfl⟩ := List.mem_map.1 hu
      rfl
    · intro v' w' h1 h2 _
      refine h v' w' ?_ ((Below.refl _ _).grown h2 hbase fun k hk => (hown.lt _ hk).1)
      unfold OwnS
      rw [List.length_append, List.map_append]
      exact h1
  rcases hR with rfl | ⟨b, off, rfl, hc⟩
  · cases p with
    | none =>
      obtain ⟨q, cap, rfl, hcap, _, _⟩ := hown.src
      have hr := run_append_nothing (P := Try.prog) w 22 22 o.type 9 i0 Try.underlying22 hi q l.length cap hcap (.slice none 0 c) ⟨.inl ⟨_, Try.underlying22⟩, fun _ => rfl, run_firstCells_none w _ 0 0 c, run_firstCells_none w.drew _ 0 0 c, by simp, by simp⟩
      exact wp_run_append hgd s x _ ho _ _ _ _ hs hx hr (h _ _ (by simpa using hown) (Below.refl _ _))
    | some ad => exact go ad rfl (fun j u hj => by simp at hj)
  · exact go _ rfl fun j u hj => by
      rw [addr_more]
      exact hc j u hj

theorem le_true {x u : Txt} (h : x ≤ u) : (Op.bytesLess x u || x == u) = true := by
  rw [bl_eq2]
  by_cases e : x = u
  · simp [e]
  · have h1 : x < u := by
      rcases Decidable.em (x < u) with h2 | h2
      · exact h2
      · exact absurd (List.le_antisymm h (List.not_lt.1 h2)) e
    simp [h1]
theorem le_not {x u : Txt} (h : ¬ x ≤ u) : (Op.bytesLess x u || x == u) = false := by
  rw [bl_eq2]
  have h1 : ¬ x < u := fun k => h (List.le_of_lt k)
  have h2 : ¬ x = u := fun k => h (by rw [k]; exact List.le_refl _)
  simp [h1, h2]

theorem add_sorted {L : List Txt} (h : L.Pairwise (fun a b => a ≤ b)) (i : Nat) {s : Txt} (h1 : ∀ j, j < i → (hj : j < L.length) → L[j] ≤ s) (h2 : ∀ hi : i < L.length, ¬ L[i] ≤ s) : (L.take i ++ s :: L.drop i).Pairwise (fun a b => a ≤ b) := by
  rw [List.pairwise_append]
  refine ⟨h.sublist (List.take_sublist i L), List.pairwise_cons.2 ⟨fun b hb => ?_, h.sublist (List.drop_sublist i L)⟩, fun a ha b hb => ?_⟩
  · obtain ⟨j, hj, rfl⟩ := List.mem_iff_getElem.1 hb
    rw [List.length_drop] at hj
    rw [List.getElem_drop]
    have hi : i < L.length := by omega
    have h3 : s ≤ L[i] := (List.le_total L[i] s).resolve_left (h2 hi)
    by_cases e : j = 0
    · subst e; exact h3
    · exact List.le_trans h3 (List.pairwise_iff_getElem.1 h i (i + j) hi (by omega) (by omega))
  · have hja : a ≤ s := by
      obtain ⟨j, hj, rfl⟩ := List.mem_iff_getElem.1 ha
      rw [List.length_take] at hj
      rw [List.getElem_take]
      exact h1 j (by omega) (by omega)
    rcases List.mem_cons.1 hb with rfl | hb
    · exact hja
    · obtain ⟨j, hj, rfl⟩ := List.mem_iff_getElem.1 hb
      rw [List.length_drop] at hj
      rw [List.getElem_drop]
      have hi : i < L.length := by omega
      have h3 : s ≤ L[i] := (List.le_total L[i] s).resolve_left (h2 hi)
      refine List.le_trans hja ?_
      by_cases e : j = 0
      · subst e; exact h3
      · exact List.le_trans h3 (List.pairwise_iff_getElem.1 h i (i + j) hi (by omega) (by omega))
theorem add_perm (L : List Txt) (i : Nat) (s : Txt) : (L.take i ++ s :: L.drop i).Perm (s :: L) := by
  have h : (L.take i ++ s :: L.drop i).Perm (s :: (L.take i ++ L.drop i)) := List.perm_middle
  rwa [List.take_append_drop] at h

/-- Behind the store of the new list. -/
theorem RefP.stored {w w4 : World} {base p : Nat} {v4 : Value} {M : List Txt} {x : Value} (hb : w.heap[p]? = some (.cells #[x] 45 (0, 0))) (hB : Below w.heap.size w w4) (hO : OwnS w4 w.heap.size v4 M) (hlow : base ≤ p) (hs : M.Pairwise (fun a b => a ≤ b)) :
    RefP (w4.setCell ⟨p, 0, none⟩ v4) base p M := by
  have hl : p < w.heap.size := by
    rcases Nat.lt_or_ge p w.heap.size with h2 | h2
    · exact h2
    · rw [Array.getElem?_eq_none h2] at hb; cases hb
  have h4 : w4.heap[p]? = some (.cells #[x] 45 (0, 0)) := by rw [hB.block p hl]; exact hb
  refine ⟨⟨v4, ?_, (hO.base_le (show base ≤ w.heap.size by omega)).keep (S := fun k => k = p) (Out.set ⟨p, 0, none⟩ v4 rfl) ?_⟩, hs, hlow⟩
  · rw [setCell_eq_setRow w4 p 0 _ _ _ _ h4]
    exact setRow_heap w4 p _ _ _ _ h4
  · rintro k rfl cur e
    rw [h4] at e
    simp at e

set_option maxRecDepth 100000 in
set_option maxHeartbeats 4000000 in
theorem radd_any (base p : Nat) (L : List Txt) (s : Txt) (w : World) (hR : RefP w base p L) (hlen : (L.length + 1) * 16 ≤ 140737488355328) :
    Calls Try.prog 15 #[.pointer (some ⟨p, 0, none⟩), .string ⟨s.toArray⟩] w fun e w' => e = .returned (.tuple #[]) ∧ (∃ M, RefP w' base p M ∧ M.Perm (s :: L)) ∧ Out (fun k => k = p) w w' := by
  obtain ⟨q, cap, c0, f0, hcap, hc2, hL⟩ := hR.look
  have hp := hR.lt
  obtain ⟨vv, hbb, _⟩ := hR.blk
  have HB := Lib.hid hbb
  have hLc : L.length ≤ 9223372036854775807 := by omega
  clear hbb
  go_enter Try.func15, Try.ntmps15
  go_wp2
  go_loopw [4] (fun vi wr => ∃ i : Nat, vi = .int .i64 i ∧ i ≤ L.length ∧ Hid (∀ j, j < i → (hj : j < L.length) → L[j] ≤ s) ∧ w = wr) (fun vi _ => L.length - (intOf vi).toNat)
  case atStart => exact ⟨0, rfl, Nat.zero_le _, fun j hj => absurd hj (Nat.not_lt_zero _), rfl⟩
  case round =>
    obtain ⟨i, rfl, hi, HK, rfl⟩ := hrel
    have step : i < L.length → True := fun _ => trivial
    clear step
    by_cases hgo : ∃ hlt : i < L.length, L[i] ≤ s
    · obtain ⟨hlt, hle⟩ := hgo
      obtain ⟨g, rfl, _, _, hc⟩ := hL i hlt
      have c1 := hc i L[i] (List.getElem?_eq_getElem hlt)
      obtain ⟨x, hx⟩ : ∃ x, x = L[i] := ⟨_, rfl⟩
      rw [← hx] at c1 hle
      have hb : (Op.bytesLess x s || x == s) = true := le_true hle
      have HX := Lib.hid hx
      have HLE := Lib.hid hle
      clear hc hx hle
      go_wp2
      go_roundw
      case rel =>
        refine ⟨i + 1, by go_num, hlt, fun j hj hjl => ?_, by simp⟩
        by_cases e : j = i
        · subst e; rw [← HX.out]; exact HLE.out
        · exact HK.out j (by omega) hjl
      case measure => simp [intOf]; omega
    · have hno : ∀ hi : i < L.length, ¬ L[i] ≤ s := fun h1 h2 => hgo ⟨h1, h2⟩
      have HN := Lib.hid hno
      have HLL := Lib.hid hL
      clear hgo hno
      by_cases hlt : i < L.length
      · obtain ⟨g, rfl, _, hg, hc⟩ := hL i hlt
        have c1 := hc i L[i] (List.getElem?_eq_getElem hlt)
        obtain ⟨x, hx⟩ : ∃ x, x = L[i] := ⟨_, rfl⟩
        rw [← hx] at c1
        have hb : (Op.bytesLess x s || x == s) = false := by
          have h1 : ¬ x ≤ s := by rw [hx]; exact HN.out hlt
          exact le_not h1
        have HC := Lib.hid hc
        clear hc hx hL
        have hic : ¬ cap ≤ i := by omega
        have hc0 : ¬ cap = 0 := by omega
        go_wp2_with (at_builtin; go_loud (refine wp_append_strs rfl _ _ rfl w.heap.size _ [] rfl (World.ownsRow_nil _ _ _ _) _ _ _ (L.take i) (by rw [List.length_take]; omega) rfl (.inr ⟨g, 0, rfl, ?a1⟩) ?a3 (Nat.le_refl _) ?_))
        case a1 =>
          intro n u hu
          rw [Nat.zero_add]
          rw [List.getElem?_take] at hu
          split at hu
          · exact HC.out n u hu
          · cases hu
        case a3 => simp; omega
        intro v1 w1 O1 b1
        have O1 : OwnS w1 w.heap.size v1 (L.take i) := O1
        go_wp2_with (at_builtin; refine wp_append_strs rfl _ _ rfl w.heap.size _ _ rfl (O1.later ?xc1) _ 1 1 [s] rfl rfl (.inr ⟨w1.heap.size, 0, rfl, ?xc2⟩) ?xc3 ?xc4 ?_)
        case xc1 => exact (Below.refl _ _).alloc (Nat.le_refl _) _
        case xc2 =>
          intro n u hu
          match n, hu with
          | 0, hu => simp at hu; subst hu; rw [Lib.cell_of_heap (heap_alloc_new _ _)]; rfl
        case xc3 => simp; omega
        case xc4 => have := b1.size; simp; omega
        intro v3 w3 O3 b3
        have B3 := Lib.hid (show Below w.heap.size w w3 from b1.trans (((Below.refl _ w1).alloc b1.size (.cells #[.string ⟨s.toArray⟩] 9)).trans b3))
        have c3 := (B3.out.cell (p := ⟨p, 0, none⟩) hp).trans c0
        have f3 := (B3.out.frozen (p := ⟨p, 0, none⟩) hp).trans (f0 0)
        clear b1 b3 O1
        have hdl : L.length - i = (L.drop i).length := by rw [List.length_drop]
        have HDL := Lib.hid hdl
        clear hdl
        go_wp2_with (at_builtin; refine wp_append_strs rfl _ _ rfl w.heap.size _ _ rfl O3 _ _ _ (L.drop i) HDL.out rfl (.inr ⟨g, i, rfl, ?b1⟩) ?b3 B3.out.size ?_)
        case b1 =>
          intro n u hu
          rw [List.getElem?_drop] at hu
          exact (B3.out.cell (p := ⟨g, _, none⟩) hg).trans (HC.out (i + n) u hu)
        case b3 => simp; omega
        intro v4 w4 O4 b4
        have c4 := (b4.cell (p := ⟨p, 0, none⟩) hp).trans c3
        have f4 := (b4.frozen (p := ⟨p, 0, none⟩) hp).trans f3
        have B4 := Lib.hid (B3.out.trans b4)
        obtain ⟨q4, n4, cap4, hv4⟩ : ∃ q4 n4 cap4, v4 = Value.slice q4 n4 cap4 := by obtain ⟨a, b, h, _⟩ := O4.src; exact ⟨a, _, b, h⟩
        subst hv4
        have HO4 := Lib.hid O4
        clear O4 b4 c3 f3
        go_wp2
        go_end0
        refine ⟨rfl, ⟨_, RefP.stored HB.out B4.out (HO4.out) hR.low (by simpa using add_sorted hR.sorted i HK.out HN.out), by simpa using add_perm L i s⟩, (Out.of B4.out).trans (Out.set ⟨p, 0, none⟩ _ rfl)⟩
      · have hiL : i = L.length := by omega
        subst hiL
        clear hlt hi
        have hL' : SrcS w q L := by
          by_cases h0 : 0 < L.length
          · obtain ⟨g, h1, _, _, h4⟩ := hL 0 h0
            exact .inr ⟨g, 0, h1, fun n u hu => by rw [Nat.zero_add]; exact h4 n u hu⟩
          · exact .inl (List.length_eq_zero_iff.1 (by omega))
        have HSRC := Lib.hid hL'
        clear hL hL'
        have hdl : 0 = ([] : List Txt).length := rfl
        have HDL := Lib.hid hdl
        clear hdl
        by_cases hcz : cap = L.length
        · subst hcz
          by_cases hz : L.length = 0
          · have hLn : L = [] := List.length_eq_zero_iff.1 hz
            subst hLn
            go_wp2_with (at_builtin; go_loud (refine wp_append_strs rfl _ _ rfl w.heap.size _ [] rfl (World.ownsRow_nil _ _ _ _) _ _ _ [] rfl rfl (.inl rfl) ?u3 (Nat.le_refl _) ?_))
            case u3 => simp
            intro v1 w1 O1 b1
            have O1 : OwnS w1 w.heap.size v1 [] := O1
            go_wp2_with (at_builtin; refine wp_append_strs rfl _ _ rfl w.heap.size _ _ rfl (O1.later ?uc1) _ 1 1 [s] rfl rfl (.inr ⟨w1.heap.size, 0, rfl, ?uc2⟩) ?uc3 ?uc4 ?_)
            case uc1 => exact (Below.refl _ _).alloc (Nat.le_refl _) _
            case uc2 =>
              intro n u hu
              match n, hu with
              | 0, hu => simp at hu; subst hu; rw [Lib.cell_of_heap (heap_alloc_new _ _)]; rfl
            case uc3 => simp
            case uc4 => have := b1.size; simp; omega
            intro v3 w3 O3 b3
            have B3 := Lib.hid (show Below w.heap.size w w3 from b1.trans (((Below.refl _ w1).alloc b1.size (.cells #[.string ⟨s.toArray⟩] 9)).trans b3))
            have c3 := (B3.out.cell (p := ⟨p, 0, none⟩) hp).trans c0
            have f3 := (B3.out.frozen (p := ⟨p, 0, none⟩) hp).trans (f0 0)
            clear b1 b3 O1
            go_wp2_with (at_builtin; go_loud (refine wp_append_strs rfl _ _ rfl w.heap.size _ _ rfl O3 _ _ _ [] HDL.out rfl (.inl rfl) ?v3 B3.out.size ?_))
            case v3 => simp
            intro v4 w4 O4 b4
            have c4 := (b4.cell (p := ⟨p, 0, none⟩) hp).trans c3
            have f4 := (b4.frozen (p := ⟨p, 0, none⟩) hp).trans f3
            have B4 := Lib.hid (B3.out.trans b4)
            obtain ⟨q4, n4, cap4, hv4⟩ : ∃ q4 n4 cap4, v4 = Value.slice q4 n4 cap4 := by obtain ⟨a, b, h, _⟩ := O4.src; exact ⟨a, _, b, h⟩
            subst hv4
            have HO4 := Lib.hid O4
            clear O4 b4 c3 f3
            go_wp2
            go_end0
            refine ⟨rfl, ⟨_, RefP.stored HB.out B4.out (HO4.out) hR.low (by simp), by simp⟩, (Out.of B4.out).trans (Out.set ⟨p, 0, none⟩ _ rfl)⟩
          · have hc0 : ¬ L.length = 0 := hz
            have hle : L.length ≤ L.length := Nat.le_refl _
            go_wp2_with (at_builtin; go_loud (refine wp_append_strs rfl _ _ rfl w.heap.size _ [] rfl (World.ownsRow_nil _ _ _ _) _ _ _ L rfl rfl HSRC.out ?s3 (Nat.le_refl _) ?_))
            case s3 => simp; omega
            intro v1 w1 O1 b1
            have O1 : OwnS w1 w.heap.size v1 L := O1
            go_wp2_with (at_builtin; refine wp_append_strs rfl _ _ rfl w.heap.size _ _ rfl (O1.later ?sc1) _ 1 1 [s] rfl rfl (.inr ⟨w1.heap.size, 0, rfl, ?sc2⟩) ?sc3 ?sc4 ?_)
            case sc1 => exact (Below.refl _ _).alloc (Nat.le_refl _) _
            case sc2 =>
              intro n u hu
              match n, hu with
              | 0, hu => simp at hu; subst hu; rw [Lib.cell_of_heap (heap_alloc_new _ _)]; rfl
            case sc3 => simp; omega
            case sc4 => have := b1.size; simp; omega
            intro v3 w3 O3 b3
            have B3 := Lib.hid (show Below w.heap.size w w3 from b1.trans (((Below.refl _ w1).alloc b1.size (.cells #[.string ⟨s.toArray⟩] 9)).trans b3))
            have c3 := (B3.out.cell (p := ⟨p, 0, none⟩) hp).trans c0
            have f3 := (B3.out.frozen (p := ⟨p, 0, none⟩) hp).trans (f0 0)
            clear b1 b3 O1
            go_wp2_with (at_builtin; go_loud (refine wp_append_strs rfl _ _ rfl w.heap.size _ _ rfl O3 _ _ _ [] HDL.out rfl (.inl rfl) ?t3 B3.out.size ?_))
            case t3 => simp; omega
            intro v4 w4 O4 b4
            have c4 := (b4.cell (p := ⟨p, 0, none⟩) hp).trans c3
            have f4 := (b4.frozen (p := ⟨p, 0, none⟩) hp).trans f3
            have B4 := Lib.hid (B3.out.trans b4)
            obtain ⟨q4, n4, cap4, hv4⟩ : ∃ q4 n4 cap4, v4 = Value.slice q4 n4 cap4 := by obtain ⟨a, b, h, _⟩ := O4.src; exact ⟨a, _, b, h⟩
            subst hv4
            have HO4 := Lib.hid O4
            clear O4 b4 c3 f3
            go_wp2
            go_end0
            refine ⟨rfl, ⟨_, RefP.stored HB.out B4.out (HO4.out) hR.low (by simpa using add_sorted hR.sorted L.length HK.out HN.out), by simp⟩, (Out.of B4.out).trans (Out.set ⟨p, 0, none⟩ _ rfl)⟩
        · have hic : ¬ cap ≤ L.length := by omega
          have hc0 : ¬ cap = 0 := by omega
          have hc1 : ¬ cap - L.length = 0 := by omega
          go_wp2_with (at_builtin; go_loud (refine wp_append_strs rfl _ _ rfl w.heap.size _ [] rfl (World.ownsRow_nil _ _ _ _) _ _ _ L rfl rfl HSRC.out ?y3 (Nat.le_refl _) ?_))
          case y3 => simp; omega
          intro v1 w1 O1 b1
          have O1 : OwnS w1 w.heap.size v1 L := O1
          go_wp2_with (at_builtin; refine wp_append_strs rfl _ _ rfl w.heap.size _ _ rfl (O1.later ?yc1) _ 1 1 [s] rfl rfl (.inr ⟨w1.heap.size, 0, rfl, ?yc2⟩) ?yc3 ?yc4 ?_)
          case yc1 => exact (Below.refl _ _).alloc (Nat.le_refl _) _
          case yc2 =>
            intro n u hu
            match n, hu with
            | 0, hu => simp at hu; subst hu; rw [Lib.cell_of_heap (heap_alloc_new _ _)]; rfl
          case yc3 => simp; omega
          case yc4 => have := b1.size; simp; omega
          intro v3 w3 O3 b3
          have B3 := Lib.hid (show Below w.heap.size w w3 from b1.trans (((Below.refl _ w1).alloc b1.size (.cells #[.string ⟨s.toArray⟩] 9)).trans b3))
          have c3 := (B3.out.cell (p := ⟨p, 0, none⟩) hp).trans c0
          have f3 := (B3.out.frozen (p := ⟨p, 0, none⟩) hp).trans (f0 0)
          clear b1 b3 O1
          go_wp2_with (at_builtin; go_loud (refine wp_append_strs rfl _ _ rfl w.heap.size _ _ rfl O3 _ _ _ [] HDL.out rfl (.inl rfl) ?z3 B3.out.size ?_))
          case z3 => simp; omega
          intro v4 w4 O4 b4
          have c4 := (b4.cell (p := ⟨p, 0, none⟩) hp).trans c3
          have f4 := (b4.frozen (p := ⟨p, 0, none⟩) hp).trans f3
          have B4 := Lib.hid (B3.out.trans b4)
          obtain ⟨q4, n4, cap4, hv4⟩ : ∃ q4 n4 cap4, v4 = Value.slice q4 n4 cap4 := by obtain ⟨a, b, h, _⟩ := O4.src; exact ⟨a, _, b, h⟩
          subst hv4
          have HO4 := Lib.hid O4
          clear O4 b4 c3 f3
          go_wp2
          go_end0
          refine ⟨rfl, ⟨_, RefP.stored HB.out B4.out (HO4.out) hR.low (by simpa using add_sorted hR.sorted L.length HK.out HN.out), by simp⟩, (Out.of B4.out).trans (Out.set ⟨p, 0, none⟩ _ rfl)⟩

end Go.Proofs.Ytinonaiolhgklaa
