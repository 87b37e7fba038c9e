/- The reference's Sort. -/
import Derived.Test.YtmhcdmebienlpaaOwnR
import Derived.Test.YtmhcdmebienlpaaInsert
import Derived.Test.YtmhcdmebienlpaaRefRow
import Derived.Test.YtmhcdmebienlpaaAppRow
namespace Go.Proofs.Ytmhcdmebienlpaa
open Go.RowKit

/-- What has been put in order so far: the numbers E of the first i rows, each row a copy ⟨fq j, fc j⟩ of the call's own. -/
structure Sorting (R : Rws) (w wr : World) (vo : Value) (i : Nat) (E : List Nat) (fq : Nat → Option Addr) (fc : Nat → Nat) : Prop where
  own : OwnR wr w.heap.size vo (E.map fun j => .slice (fq j) (R.l j) (fc j))
  below : Below w.heap.size w wr
  perm : E.Perm (List.range i)
  order : R.inOrder E
  row : ∀ j, j < i → RowP wr (fq j) (R.l j) (R.x j)

theorem Sorting.ext {R : Rws} {w wr wq : World} {vo : Value} {i : Nat} {E : List Nat} {fq : Nat → Option Addr} {fc : Nat → Nat} (h : Sorting R w wr vo i E fq fc) (hb : Below wr.heap.size wr wq) : Sorting R w wq vo i E fq fc :=
  ⟨h.own.later hb, ext_trans h.below hb, h.perm, h.order, fun j hj => (h.row j hj).ext hb⟩

theorem Sorting.put {R : Rws} {w W1 w4 : World} {vo v4 : Value} {i k b2 c2 : Nat} {q2 : Option Addr} {E : List Nat} {fq : Nat → Option Addr} {fc : Nat → Nat} (S : Sorting R w W1 vo i E fq fc) (hk : k ≤ E.length)
    (h1 : ∀ j, k ≤ j → (hj : j < E.length) → 0 < R.cf E[j] i) (h2 : ∀ (_ : 0 < k) (hk : k - 1 < E.length), R.cf E[k - 1] i ≤ 0)
    (O4 : OwnR w4 W1.heap.size v4 ((E.map fun j => Value.slice (fq j) (R.l j) (fc j)).take k ++ [Value.slice q2 (R.l i) c2] ++ (E.map fun j => Value.slice (fq j) (R.l j) (fc j)).drop k))
    (hb : Below W1.heap.size W1 w4) (O2 : OwnV w4 b2 (.slice q2 (R.l i) c2) ((List.range (R.l i)).map (R.x i))) :
    Sorting R w w4 v4 (i + 1) (put E k i) (fun n => if n = i then q2 else fq n) (fun n => if n = i then c2 else fc n) := by
  have hlt : ∀ a ∈ E, a < i := fun a ha => by simpa using S.perm.mem_iff.1 ha
  refine ⟨?_, S.below.trans (hb.mono S.below.size), put_range k S.perm, R.put_order S.order h1 hk h2, fun j hj => ?_⟩
  · have e : ((Go.Proofs.Ytmhcdmebienlpaa.put E k i).map fun j => Value.slice (if j = i then q2 else fq j) (R.l j) (if j = i then c2 else fc j)) = (E.map fun j => Value.slice (fq j) (R.l j) (fc j)).take k ++ [Value.slice q2 (R.l i) c2] ++ (E.map fun j => Value.slice (fq j) (R.l j) (fc j)).drop k := by
      unfold Go.Proofs.Ytmhcdmebienlpaa.put
      rw [List.map_append, List.map_cons, if_pos rfl, if_pos rfl, ← List.map_take, ← List.map_drop, List.append_assoc, List.singleton_append]
      congr 1
      · exact List.map_congr_left fun a ha => by have := hlt a (List.mem_of_mem_take ha); simp [show a ≠ i by omega]
      · congr 1
        exact List.map_congr_left fun a ha => by have := hlt a (List.mem_of_mem_drop ha); simp [show a ≠ i by omega]
    rw [e]
    obtain ⟨o1, o2⟩ := O4
    refine ⟨o1, ?_⟩
    rcases o2 with o2 | ⟨g, cap, cur, hv, hg, r⟩
    · exact .inl o2
    · exact .inr ⟨g, cap, cur, hv, Nat.le_trans S.below.size hg, r⟩
  · by_cases e : j = i
    · subst e
      simp only [if_true]
      obtain ⟨p, cap, he, hR, _⟩ := O2.row
      simp at he
      obtain ⟨rfl, rfl⟩ := he
      rw [List.length_map, List.length_range] at hR
      rcases hR with h | ⟨b, off, hp, hA⟩
      · exact .inl h
      · exact .inr ⟨b, off, hp, hA.lt, fun n hn => by simpa [hn] using hA.c0 n hn, fun n hn => by simpa [hn] using hA.c1 n hn, fun n hn => by simpa [hn] using hA.c2 n hn⟩
    · simp only [if_neg e]
      exact (S.row j (by omega)).ext hb

set_option maxRecDepth 100000 in
set_option maxHeartbeats 4000000 in
theorem rsort_any (R : Rws) (p : Option Addr) (c : Nat) (w : World) (hok : R.ok w) (hn : R.n ≤ 100) (hl : ∀ i, i < R.n → R.l i ≤ 4398046511104) (hp : R.at_ w p) :
    Calls Try.prog 18 #[.slice p R.n c] w fun e w' => ∃ (E : List Nat) (fq : Nat → Option Addr) (fc : Nat → Nat) (v : Value), e = .returned v ∧ Sorting R w w' v R.n E fq fc := by
  go_enter Try.func18, Try.ntmps18
  go_wp2
  go_loopw [3, 4] (fun vo vi wr => ∃ (i : Nat) (E : List Nat) (fq : Nat → Option Addr) (fc : Nat → Nat), vi = .int .i64 i ∧ i ≤ R.n ∧ Hid (Sorting R w wr vo i E fq fc)) (fun _ vi _ => R.n - (intOf vi).toNat)
  case atStart => exact ⟨0, [], fun _ => none, fun _ => 0, rfl, Nat.zero_le _, ⟨World.ownsRow_nil _ _ _ _, Below.refl _ _, List.Perm.refl _, List.Pairwise.nil, fun j hj => by omega⟩⟩
  case round =>
    obtain ⟨i, E, fq, fc, rfl, hi, HS⟩ := hrel
    obtain ⟨Z, hZ⟩ : ∃ Z, Z = wr := ⟨_, rfl⟩
    subst hZ
    have hEl : E.length = i := by have := HS.out.perm.length_eq; simpa using this
    by_cases hlt : i < R.n
    · obtain ⟨po, co, rfl, hco, hsrc⟩ := HS.out.own.src
      rw [List.length_map, hEl] at hco ⊢
      obtain ⟨b, off, rfl, hb, hcell⟩ := hp i hlt
      have HL := Lib.hid hEl
      have HC := Lib.hid hsrc
      clear hEl hsrc
      go_wp2
      go_loopw [5] (fun vk wr => ∃ k : Nat, vk = .int .i64 k ∧ k ≤ i ∧ Hid (Below Z.heap.size Z wr ∧ ∀ j, k ≤ j → (hj : j < E.length) → 0 < R.cf E[j] i)) (fun vk _ => (intOf vk).toNat)
      case atStart => exact ⟨i, rfl, Nat.le_refl _, ⟨Below.refl _ _, fun j h1 h2 => by have := HL.out; omega⟩⟩
      case round =>
        obtain ⟨k, rfl, hk, HK⟩ := hrel
        have qL := fun (z : After wr) => (z.cell b (off + i) (Nat.lt_of_lt_of_le hb (Nat.le_trans HS.out.below.size HK.out.1.size))).trans ((HK.out.1.cell (p := ⟨b, off + i, none⟩) (Nat.lt_of_lt_of_le hb HS.out.below.size)).trans ((HS.out.below.cell (p := ⟨b, off + i, none⟩) hb).trans (hcell i hlt)))
        have is := After.some wr
        cases k with
        | zero =>
          go_wp2_with fail
          go_region
          clear qL is
          obtain ⟨W1, hW1⟩ : ∃ W, W = wr.drew := ⟨_, rfl⟩
          have hbW : Below wr.heap.size wr W1 := by rw [hW1]; exact (Below.refl _ _).drew
          rw [← hW1]
          clear hW1
          have SX := Lib.hid ((HS.out.ext HK.out.1).ext hbW)
          obtain ⟨L, hLe⟩ : ∃ L, L = E.map fun j => Value.slice (fq j) (R.l j) (fc j) := ⟨_, rfl⟩
          have HLe := Lib.hid hLe
          have HLn := Lib.hid (show L.length = i by rw [hLe, List.length_map, HL.out])
          have hone : ∀ u ∈ L, u.oneCell' = true := by
            rw [hLe]
            intro u hu
            obtain ⟨a, _, rfl⟩ := List.mem_map.1 hu
            rfl
          have HX := Lib.hid (show Below Z.heap.size Z W1 from ext_trans HK.out.1 hbW)
          have HG := Lib.hid (show L = [] ∨ ∃ g, po = some ⟨g, 0, none⟩ ∧ g < W1.heap.size ∧ ∀ n u, L[n]? = some u → W1.cell? ⟨g, n, none⟩ = some u from by
            rcases HC.out with h | ⟨g', h1, h2, h3, h4⟩
            · exact .inl (by rw [hLe, h])
            · exact .inr ⟨g', h1, Nat.lt_of_lt_of_le h3 HX.out.size, fun n u hu => (HX.out.cell (p := ⟨g', n, none⟩) h3).trans (h4 n u (by rw [← hLe]; exact hu))⟩)
          clear hLe
          have hcl := (HX.out.cell (p := ⟨b, off + i, none⟩) (Nat.lt_of_lt_of_le hb HS.out.below.size)).trans ((HS.out.below.cell (p := ⟨b, off + i, none⟩) hb).trans (hcell i hlt))
          have hbW0 : b < W1.heap.size := Nat.lt_of_lt_of_le hb (Nat.le_trans HS.out.below.size HX.out.size)
          have hri := ((hok.row i hlt).ext HS.out.below).ext HX.out
          have hli := hl i hlt
          clear hbW hcell
          go_wp2_with (at_builtin; refine wp_append_rows rfl _ _ rfl W1.heap.size _ [] rfl (World.ownsRow_nil _ _ _ _) _ _ _ [] rfl rfl (.inl rfl) (by intro u hu; cases hu) (by simp) (Nat.le_refl _) ?_)
          intro v1 w1 O1 g1 b1
          have O1 : OwnR w1 W1.heap.size v1 [] := O1
          have hcl1 := (b1.cell (p := ⟨b, off + i, none⟩) hbW0).trans hcl
          have hri1 := hri.ext b1
          clear g1
          go_wp2_with (at_builtin; refine wp_append_row rfl _ _ rfl w1.heap.size _ [] rfl (OwnV.nil _ _) (R.q i) (R.l i) (R.c i) (R.x i) rfl hri1 ?z1 (Nat.le_refl _) ?_)
          case z1 => simp; omega
          intro v2 w2 O2 g2 b2
          have O2 : OwnV w2 w1.heap.size v2 ((List.range (R.l i)).map (R.x i)) := O2
          clear g2
          obtain ⟨q2, c2, hv2, _, _, _⟩ := O2.row
          rw [show ((List.range (R.l i)).map (R.x i)).length = R.l i by simp] at hv2
          subst hv2
          have O1' := O1.later b2
          go_wp2_with (at_builtin; refine wp_append_slice rfl _ _ rfl W1.heap.size _ _ rfl (O1'.later ?y1) (.slice q2 (R.l i) c2) _ _ rfl ?y2 rfl ?y3 ?y4 ?_)
          case y1 => exact (Below.refl _ _).alloc (Nat.le_refl _) _
          case y2 => exact Lib.cell_of_heap (heap_alloc_new _ _) 0
          case y3 => simp
          case y4 => have := b1.size; have := b2.size; simp; omega
          intro v3 w3 O3 g3 b3
          have O2' := (O2.later ((Below.refl _ _).alloc (Nat.le_refl _) (.cells #[.slice q2 (R.l i) c2] 22))).grownR (O1'.later ((Below.refl _ _).alloc (Nat.le_refl _) _)) g3
          have B3 := Lib.hid (show Below W1.heap.size W1 w3 from (b1.trans ((b2.mono b1.size).trans (((Below.refl _ w2).alloc (Nat.le_trans b1.size b2.size) (.cells #[.slice q2 (R.l i) c2] 22)).trans b3))))
          clear b1 b2 g3 b3 O2 O1 O1' hri1 hcl1
          go_wp2_with (at_builtin; refine wp_append_rows rfl _ _ rfl W1.heap.size _ _ rfl O3 _ _ _ L HLn.out.symm rfl ?x1 ?x2 ?x3 ?x4 ?_)
          case x1 =>
            rcases HG.out with h | ⟨g, h1, h2, h3⟩
            · exact .inl h
            · exact .inr ⟨g, 0, h1, fun n u hu => by rw [Nat.zero_add]; exact (B3.out.cell (p := ⟨g, n, none⟩) h2).trans (h3 n u hu)⟩
          case x2 => exact hone
          case x3 => simp [HLn.out]; omega
          case x4 => exact B3.out.size
          intro v4 w4 O4 g4 b4
          have O2'' := O2'.grownR O3 g4
          go_wp2
          go_roundw
          case rel => exact ⟨i + 1, put E 0 i, _, _, by go_num, hlt, SX.out.put (k := 0) (Nat.zero_le _) (fun j' h1 h2 => HK.out.2 j' h1 h2) (fun h _ => by omega) (by rw [← HLe.out]; simpa using O4) (B3.out.trans b4) O2''⟩
          case measure => simp [intOf] <;> omega
        | succ j =>
          have hjE : j < E.length := by have := HL.out; omega
          obtain ⟨u, hu⟩ : ∃ u, u = E[j] := ⟨_, rfl⟩
          have hui : u < i := by
            have := HS.out.perm.mem_iff.1 (show u ∈ E by rw [hu]; exact List.getElem_mem hjE)
            simpa using this
          have hE : (E.map fun j => Value.slice (fq j) (R.l j) (fc j))[j]? = some (.slice (fq u) (R.l u) (fc u)) := by simp [hjE, hu]
          obtain ⟨g, rfl, hg, hgz, hgc⟩ : ∃ g, po = some ⟨g, 0, none⟩ ∧ w.heap.size ≤ g ∧ g < Z.heap.size ∧ Z.cell? ⟨g, j, none⟩ = some (.slice (fq u) (R.l u) (fc u)) := by
            rcases HC.out with h | ⟨g, h1, h2, h3, h4⟩
            · rw [h] at hE; simp at hE
            · exact ⟨g, h1, h2, h3, h4 j _ hE⟩
          have qO := fun (z : After wr) => (z.cell g j (Nat.lt_of_lt_of_le hgz HK.out.1.size)).trans ((HK.out.1.cell (p := ⟨g, j, none⟩) hgz).trans hgc)
          have r0 := (HS.out.row u hui).ext HK.out.1
          have r1 := ((hok.row i hlt).ext HS.out.below).ext HK.out.1
          have l0 := hok.len u (by omega)
          have l1 := hok.len i hlt
          have HU := Lib.hid hu
          have hz7 : IntKind.i64.wrap (j : Int) = (j : Int) := by rw [IntKind.wrap_i64]; omega
          have hz8 : IntKind.i64.wrap ((j : Int) + 1) = (j : Int) + 1 := by rw [IntKind.wrap_i64]; omega
          have hz9 : (j : Int) < (i : Int) := by omega
          have hz10 : j < i := by omega
          clear hu hE hgc hcell
          by_cases hcf : 0 < R.cf u i
          · have hcf' : 0 < cmpRow (R.l u) (R.l i) (R.x u) (R.x i) := hcf
            go_wp2_with fail
            refine wp_region_after (by kernel_rfl) (by kernel_rfl) ?_
            repeat (quiet_step ((go_at_call 23; exact calls_after (rrowCompare_any _ _ _ _ _ _ _ _ _ l0 l1 (r0.ext (After.below _)) (r1.ext (After.below _))))))
            refine wpQuiet_nil ?_
            intro _ hw
            obtain ⟨⟨W1, hbW⟩, rfl⟩ := hw
            clear is qL qO
            go_wp2
            go_roundw
            case rel =>
              refine ⟨j, by go_num, by omega, ext_trans HK.out.1 hbW, fun j' h1 h2 => ?_⟩
              by_cases e : j' = j
              · subst e; rw [← HU.out]; exact hcf
              · exact HK.out.2 j' (by omega) h2
            case measure => simp [intOf] <;> omega
          · have hcf' : ¬ 0 < cmpRow (R.l u) (R.l i) (R.x u) (R.x i) := hcf
            go_wp2_with fail
            refine wp_region_after (by kernel_rfl) (by kernel_rfl) ?_
            repeat (quiet_step ((go_at_call 23; exact calls_after (rrowCompare_any _ _ _ _ _ _ _ _ _ l0 l1 (r0.ext (After.below _)) (r1.ext (After.below _))))))
            refine wpQuiet_nil ?_
            intro W1 hw
            obtain ⟨⟨_, hbW⟩, rfl⟩ := hw
            clear is qL qO
            have SX := Lib.hid ((HS.out.ext HK.out.1).ext hbW)
            have hL : (E.map fun j => Value.slice (fq j) (R.l j) (fc j)).length = i := by rw [List.length_map, HL.out]
            obtain ⟨L, hLe⟩ : ∃ L, L = E.map fun j => Value.slice (fq j) (R.l j) (fc j) := ⟨_, rfl⟩
            have HLe := Lib.hid hLe
            rw [← hLe] at hL
            have hone : ∀ u ∈ L, u.oneCell' = true := by
              rw [hLe]
              intro u hu
              obtain ⟨a, _, rfl⟩ := List.mem_map.1 hu
              rfl
            have hgX : ∀ n u, L[n]? = some u → W1.cell? ⟨g, n, none⟩ = some u := by
              rcases HC.out with h | ⟨g', h1, h2, h3, h4⟩
              · rw [← hLe] at h; rw [h]; intro n u hu; simp at hu
              · cases h1
                rw [← hLe] at h4
                intro n u hu
                exact (hbW.cell (p := ⟨g, n, none⟩) (Nat.lt_of_lt_of_le hgz HK.out.1.size)).trans ((HK.out.1.cell (p := ⟨g, n, none⟩) hgz).trans (h4 n u hu))
            clear hLe
            have HX := Lib.hid (show Below Z.heap.size Z W1 from ext_trans HK.out.1 hbW)
            have hgW : g < W1.heap.size := Nat.lt_of_lt_of_le hgz HX.out.size
            have hcl := (hbW.cell (p := ⟨b, off + i, none⟩) (Nat.lt_of_lt_of_le hb (Nat.le_trans HS.out.below.size HK.out.1.size))).trans ((HK.out.1.cell (p := ⟨b, off + i, none⟩) (Nat.lt_of_lt_of_le hb HS.out.below.size)).trans ((HS.out.below.cell (p := ⟨b, off + i, none⟩) hb).trans (by have := hp i hlt; obtain ⟨b', off', e, _, h⟩ := this; cases e; exact h i hlt)))
            have hbW0 : b < W1.heap.size := Nat.lt_of_lt_of_le hb (Nat.le_trans HS.out.below.size HX.out.size)
            have hri := (r1.ext hbW)
            have hli := hl i hlt
            have hLt : (L.take (j + 1)).length = j + 1 := by rw [List.length_take]; omega
            clear r0 r1 l0 hbW
            go_wp2_with (at_builtin; refine wp_append_rows rfl _ _ rfl W1.heap.size _ [] rfl (World.ownsRow_nil _ _ _ _) _ _ _ (L.take (j + 1)) hLt.symm rfl (.inr ⟨g, 0, rfl, ?a1⟩) ?a2 ?a3 (Nat.le_refl _) ?_)
            case a1 =>
              intro n u hu
              rw [Nat.zero_add]
              refine hgX n u ?_
              rw [List.getElem?_take] at hu
              split at hu
              · exact hu
              · cases hu
            case a2 => exact fun u hu => hone u (List.mem_of_mem_take hu)
            case a3 => simp; omega
            intro v1 w1 O1 g1 b1
            have O1 : OwnR w1 W1.heap.size v1 (L.take (j + 1)) := O1
            have hcl1 := (b1.cell (p := ⟨b, off + i, none⟩) hbW0).trans hcl
            have hri1 := hri.ext b1
            clear g1
            go_wp2_with (at_builtin; refine wp_append_row rfl _ _ rfl w1.heap.size _ [] rfl (OwnV.nil _ _) (R.q i) (R.l i) (R.c i) (R.x i) rfl hri1 ?b1 (Nat.le_refl _) ?_)
            case b1 => simp; omega
            intro v2 w2 O2 g2 b2
            have O2 : OwnV w2 w1.heap.size v2 ((List.range (R.l i)).map (R.x i)) := O2
            clear g2
            obtain ⟨q2, c2, hv2, _, _, _⟩ := O2.row
            rw [show ((List.range (R.l i)).map (R.x i)).length = R.l i by simp] at hv2
            subst hv2
            have O1' := O1.later b2
            go_wp2_with (at_builtin; refine wp_append_slice rfl _ _ rfl W1.heap.size _ _ rfl (O1'.later ?c1) (.slice q2 (R.l i) c2) _ _ rfl ?c2 rfl ?c3 ?c4 ?_)
            case c1 => exact (Below.refl _ _).alloc (Nat.le_refl _) _
            case c2 => exact Lib.cell_of_heap (heap_alloc_new _ _) 0
            case c3 => rw [hLt]; omega
            case c4 => have := b1.size; have := b2.size; simp; omega
            intro v3 w3 O3 g3 b3
            have O2' := (O2.later ((Below.refl _ _).alloc (Nat.le_refl _) (.cells #[.slice q2 (R.l i) c2] 22))).grownR (O1'.later ((Below.refl _ _).alloc (Nat.le_refl _) _)) g3
            have B3 := Lib.hid (show Below W1.heap.size W1 w3 from (b1.trans ((b2.mono b1.size).trans (((Below.refl _ w2).alloc (Nat.le_trans b1.size b2.size) (.cells #[.slice q2 (R.l i) c2] 22)).trans b3))))
            clear b1 b2 g3 b3 O2 O1 O1' hri1 hcl1
            have HLd := Lib.hid (show i - (j + 1) = (L.drop (j + 1)).length from by rw [List.length_drop, hL])
            have HLt := Lib.hid (And.intro hLt hL)
            clear hLt hL
            by_cases hcz : co = j + 1
            · subst hcz
              have HL0 := Lib.hid (show 0 = (L.drop (j + 1)).length from by rw [List.length_drop, HLt.out.2]; omega)
              go_wp2_with (at_builtin; refine wp_append_rows rfl _ _ rfl W1.heap.size _ _ rfl O3 _ _ _ (L.drop (j + 1)) HL0.out rfl ?d1x ?d2x ?d3x ?d4x ?_)
              case d1x => exact .inl (List.drop_eq_nil_of_le (by have := HLt.out.2; omega))
              case d2x => exact fun u hu => hone u (List.mem_of_mem_drop hu)
              case d3x => simp [HLt.out.1, HLt.out.2]; omega
              case d4x => exact B3.out.size
              intro v4 w4 O4 g4 b4
              have O2'' := O2'.grownR O3 g4
              go_wp2
              go_roundw
              case rel => exact ⟨i + 1, put E (j + 1) i, _, _, by go_num, hlt, SX.out.put (k := j + 1) hjE (fun j' h1 h2 => HK.out.2 j' h1 h2) (fun _ _ => by show R.cf E[j] i ≤ 0; rw [← HU.out]; omega) (by rw [← HLe.out]; simpa using O4) (B3.out.trans b4) O2''⟩
              case measure => simp [intOf] <;> omega
            · have hcz1 : ¬ co ≤ j + 1 := by omega
              have hcz2 : ¬ co - (j + 1) = 0 := by omega
              go_wp2_with (at_builtin; refine wp_append_rows rfl _ _ rfl W1.heap.size _ _ rfl O3 _ _ _ (L.drop (j + 1)) HLd.out rfl ?d1y ?d2y ?d3y ?d4y ?_)
              case d1y => 
                refine .inr ⟨g, j + 1, rfl, fun n u hu => ?_⟩
                rw [List.getElem?_drop] at hu
                exact (B3.out.cell (p := ⟨g, _, none⟩) hgW).trans (hgX (j + 1 + n) u hu)
              case d2y => exact fun u hu => hone u (List.mem_of_mem_drop hu)
              case d3y => simp [HLt.out.1, HLt.out.2]; omega
              case d4y => exact B3.out.size
              intro v4 w4 O4 g4 b4
              have O2'' := O2'.grownR O3 g4
              go_wp2
              go_roundw
              case rel => exact ⟨i + 1, put E (j + 1) i, _, _, by go_num, hlt, SX.out.put (k := j + 1) hjE (fun j' h1 h2 => HK.out.2 j' h1 h2) (fun _ _ => by show R.cf E[j] i ≤ 0; rw [← HU.out]; omega) (by rw [← HLe.out]; simpa using O4) (B3.out.trans b4) O2''⟩
              case measure => simp [intOf] <;> omega
    · have hin : i = R.n := by omega
      subst hin
      go_wp2
      go_ret
      exact ⟨E, fq, fc, _, rfl, HS.out⟩

end Go.Proofs.Ytmhcdmebienlpaa
